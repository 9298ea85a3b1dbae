/-
  SegCrash, part 21 of what the law's proof leans on: ScTake, ScSeal.
-/
import Derived.Deep.QuietTactic
import Derived.Test.YtaicibmaogiibaaGreatDoorSegCrashQ20
import Derived.Test.YtaicibmaogiibaaGreatDoorSegCrashQ1
import Derived.Test.YtaicibmaogiibaaGreatDoorSegCrashQ5
import Derived.Test.YtaicibmaogiibaaGreatDoorSegCrashQ6
/- ScTake -/

/-
  Layer 12: the landed scan's take: one step of a scan.
-/
set_option linter.unusedVariables false
set_option linter.unusedSimpArgs false
namespace Go.Proofs.YtaicibmaogiibaaGreatDoor.Sc
open Go Go.RowKit

/-- one step of a scan, by what stands at its end -/
def tk (s : S) (rest : List UInt8) : S :=
  if (Rc.getQ rest).2.2 = 22 then { s with why := 22 }
  else if (Rc.getQ rest).2.1 = 0 ∨ ((Rc.getQ rest).2.2 = 0 ∧ (Rc.getQ rest).1.seq ≤ (lastF s.found : Int)) then { s with why := 23 }
  else if (Rc.getQ rest).2.2 = 0 then { s with found := s.found ++ [⟨s.stop, (Rc.getQ rest).2.1, (Rc.getQ rest).1⟩], stop := s.stop + (Rc.getQ rest).2.1 }
  else { s with passed := s.passed ++ [s.stop], stop := s.stop + (Rc.getQ rest).2.1 }
theorem found_infoL : (Tryz.prog.info? 56).map (fun i => (i.zero, i.size, i.bytes)) = some (some (.agg #[.int .u32 0, .int .u32 0, .int .i64 0, .int .u64 0, .int .i64 0, .slice none 0 0, .slice none 0 0, .int .u32 0, .int .u32 0]), 9, 88) := by kernel_rfl
theorem int_infoL : (Tryz.prog.info? 3).map (fun i => (i.zero, i.size, i.bytes)) = some (some (.int .i64 0), 1, 8) := by kernel_rfl
theorem NewRec.recIn {w w' : World} {rv : Value} {r : Rc.Rec} (h : NewRec w w' rv r) : RecIn w' w.heap.size rv r := by
  rcases h with ⟨rfl, rfl⟩ | ⟨g1, g2, rfl, _, h1, h2, h3, h4⟩
  · exact RecIn.none_
  · exact ⟨_, _, rfl, .inr ⟨g1, rfl, h1, h3⟩, .inr ⟨g2, rfl, h2, h4⟩⟩
/-- every other scan in a block lies as it lay -/
def Keep (w w' : World) (B : Nat) : Prop := ∀ k arr z, k ≠ B → w.heap[k]? = some (.cells arr 44 z) → w'.heap[k]? = some (.cells arr 44 z)
theorem Keep.of_below {w w' : World} {B : Nat} (hb : Below w.heap.size w w') : Keep w w' B := fun k arr z _ h => (hb.block k (Array.getElem?_eq_some_iff.1 h).1).trans h
theorem Keep.trans {a b c : World} {B : Nat} (h : Keep a b B) (k : Keep b c B) : Keep a c B := fun i arr z hi hh => k i arr z hi (h i arr z hi hh)
/-- the block B holds the scan s, its rows told by name -/
structure TkI (w : World) (lo B : Nat) (s : S) (q : List Fq) (Af : Option Addr) (nf cf : Nat) (Ap : Option Addr) (np cp : Nat) : Prop where
  blk : w.heap[B]? = some (.cells #[.int .u32 (s.id : Int), .slice Af nf cf, .slice Ap np cp, .int .i64 (s.stop : Int), .int .i64 (s.why : Int)] 44 (0, 0))
  hq : q.map (·.1) = s.found
  hn : q.length = nf
  hp : s.passed.length = np
  own : w.ownsRow lo 56 9 (.slice Af nf cf) nf (rowF s.id q)
  ok : ∀ x ∈ q, FqOk w lo x
  pown : w.ownsRow lo 3 1 (.slice Ap np cp) np (s.passed.map fun n : Nat => Value.int .i64 (n : Int))
section
variable {w V X : World} {lo B : Nat} {s s' : S} {q : List Fq} {Af Ap : Option Addr} {nf cf np cp : Nat}
theorem ScanB.open (h : ScanB w lo B s) : ∃ q Af nf cf Ap np cp, TkI w lo B s q Af nf cf Ap np cp := by
  obtain ⟨Af, nf, cf, Ap, np, cp, q, h1, h2, h3, h4, h5, h6, h7⟩ := h
  exact ⟨q, Af, nf, cf, Ap, np, cp, h1, h2, h3, h4, h5, h6, h7⟩
theorem TkI.on (h : TkI w lo B s q Af nf cf Ap np cp) (hb : Below w.heap.size w V) : TkI V lo B s q Af nf cf Ap np cp :=
  ⟨(hb.block B (Array.getElem?_eq_some_iff.1 h.blk).1).trans h.blk, h.hq, h.hn, h.hp, own_below h.own hb (Nat.le_refl _), fun x hx => (h.ok x hx).on hb, own_below h.pown hb (Nat.le_refl _)⟩
theorem TkI.blk' (h : TkI w lo B s q Af nf cf Ap np cp) {i0 i3 i4 : Nat} (h0 : s.id = i0) (h3 : s.stop = i3) (h4 : s.why = i4) : w.heap[B]? = some (.cells #[.int .u32 (i0 : Int), .slice Af nf cf, .slice Ap np cp, .int .i64 (i3 : Int), .int .i64 (i4 : Int)] 44 (0, 0)) := by
  subst h0 h3 h4
  exact h.blk
/-- a scan that is changed in its block alone -/
theorem tk_fin {arr : Array Value} {z : Nat × Nat} (hV : V.heap[B]? = some (.cells arr 44 z)) (hX : X.heap[B]? = some (.cells #[.int .u32 (s'.id : Int), .slice Af nf cf, .slice Ap np cp, .int .i64 (s'.stop : Int), .int .i64 (s'.why : Int)] 44 (0, 0)))
    (hc : Chg (fun i => i = B) V X) (hb : Below lo w V) (hk : Keep w V B) (hlo : lo ≤ w.heap.size) (hB : lo ≤ B) (h1 : q.map (·.1) = s'.found) (h2 : q.length = nf) (h3 : s'.passed.length = np)
    (h4 : V.ownsRow lo 56 9 (.slice Af nf cf) nf (rowF s'.id q)) (h5 : ∀ x ∈ q, FqOk V lo x) (h6 : V.ownsRow lo 3 1 (.slice Ap np cp) np (s'.passed.map fun n : Nat => Value.int .i64 (n : Int))) :
    ScanB X lo B s' ∧ Below lo w X ∧ Keep w X B := by
  have hty : Typed V 44 (fun i => i = B) := fun g e => by obtain rfl : g = B := e; exact ⟨_, _, hV⟩
  refine ⟨⟨Af, nf, cf, Ap, np, cp, q, hX, h1, h2, h3, hty.own (by decide) hc h4, fun x hx => (h5 x hx).apart hty (by decide) hc, hty.own (by decide) hc h6⟩, ?_, ?_⟩
  · exact hb.trans (hc.below (Nat.le_trans hlo hb.size) (fun i e => by obtain rfl : i = B := e; exact hB))
  · intro k arr2 z2 hne hh
    have := hk k arr2 z2 hne hh
    exact (hc.block k (Array.getElem?_eq_some_iff.1 this).1 hne).trans this
end
/-- what stands within the walk: the scan's block, the record's block, the record found -/
structure VB (w V : World) (lo B : Nat) (s : S) (q : List Fq) (Af : Option Addr) (nf cf : Nat) (Ap : Option Addr) (np cp rb : Nat) (rc : Array Value) (kx : Fq) : Prop where
  below : Below lo w V
  tk : TkI V lo B s q Af nf cf Ap np cp
  keep : Keep w V B
  rk : V.heap[rb]? = some (.cells rc 51 (0, 0))
  rlo : lo ≤ rb
  kx : FqOk V lo kx
section
variable {w V X : World} {lo B : Nat} {s : S} {q : List Fq} {Af Ap : Option Addr} {nf cf np cp rb : Nat} {rc : Array Value} {kx : Fq} {i0 i3 i4 : Nat}
theorem VB.on (h : VB w V lo B s q Af nf cf Ap np cp rb rc kx) (hb : Below V.heap.size V X) (hlo : lo ≤ w.heap.size) : VB w X lo B s q Af nf cf Ap np cp rb rc kx :=
  ⟨h.below.trans (hb.mono (Nat.le_trans hlo h.below.size)), h.tk.on hb, h.keep.trans (Keep.of_below hb), (hb.block rb (Array.getElem?_eq_some_iff.1 h.rk).1).trans h.rk, h.rlo, h.kx.on hb⟩
theorem VB.drew (h : VB w V lo B s q Af nf cf Ap np cp rb rc kx) (hlo : lo ≤ w.heap.size) : VB w V.drew lo B s q Af nf cf Ap np cp rb rc kx := h.on ((Below.refl V.heap.size V).drew) hlo
theorem VB.rec6 {a0 a1 a2 a3 a4 a5 : Value} (h : VB w V lo B s q Af nf cf Ap np cp rb rc kx) (e : rc = #[a0, a1, a2, a3, a4, a5]) : V.cell? ⟨rb, 0, none⟩ = some a0 ∧ V.cell? ⟨rb, 1, none⟩ = some a1 ∧ V.cell? ⟨rb, 2, none⟩ = some a2 ∧ V.cell? ⟨rb, 3, none⟩ = some a3 ∧ V.cell? ⟨rb, 4, none⟩ = some a4 ∧ V.cell? ⟨rb, 5, none⟩ = some a5 := by
  subst e
  exact ⟨cell_of_row V rb 0 _ _ _ h.rk, cell_of_row V rb 1 _ _ _ h.rk, cell_of_row V rb 2 _ _ _ h.rk, cell_of_row V rb 3 _ _ _ h.rk, cell_of_row V rb 4 _ _ _ h.rk, cell_of_row V rb 5 _ _ _ h.rk⟩
theorem VB.scanV (h : VB w V lo B s q Af nf cf Ap np cp rb rc kx) (e : s.id = i0 ∧ s.stop = i3 ∧ s.why = i4) : ScanV 56 V lo (.agg #[.int .u32 (i0 : Int), .slice Af nf cf, .slice Ap np cp, .int .i64 (i3 : Int), .int .i64 (i4 : Int)]) s := by
  obtain ⟨rfl, rfl, rfl⟩ := e
  have hn := h.tk.hn
  have hp := h.tk.hp
  exact ⟨_, _, q, rfl, h.tk.hq, by rw [hn]; exact h.tk.own, h.tk.ok, by rw [hp]; exact h.tk.pown⟩
theorem VB.own (h : VB w V lo B s q Af nf cf Ap np cp rb rc kx) (e : s.id = i0) : V.ownsRow lo 56 9 (.slice Af nf cf) nf (rowF i0 q) := by rw [← e]; exact h.tk.own
/-- a new block of another type is changed -/
theorem VB.chg {N : Nat → Prop} {T : TypeId} (h : VB w V lo B s q Af nf cf Ap np cp rb rc kx) (hty : Typed V T N) (t1 : T ≠ 5) (t2 : T ≠ 44) (t3 : T ≠ 56) (t4 : T ≠ 3) (t5 : T ≠ 51) (hc : Chg N V X) (hN : ∀ i, N i → lo ≤ i) (hlo : lo ≤ w.heap.size) :
    VB w X lo B s q Af nf cf Ap np cp rb rc kx :=
  ⟨h.below.trans (hc.below (Nat.le_trans hlo h.below.size) (fun i e => hN i e)), ⟨hty.keep hc h.tk.blk t2, h.tk.hq, h.tk.hn, h.tk.hp, hty.own (Ne.symm t3) hc h.tk.own, fun x hx => (h.tk.ok x hx).apart hty t1 hc, hty.own (Ne.symm t4) hc h.tk.pown⟩,
    h.keep.trans (fun k arr z _ hh => hty.keep hc hh t2), hty.keep hc h.rk t5, h.rlo, h.kx.apart hty t1 hc⟩
/-- the reason is told -/
theorem VB.why (h : VB w V lo B s q Af nf cf Ap np cp rb rc kx) (hB : lo ≤ B) (hlo : lo ≤ w.heap.size) (y : Nat) : ScanB (V.setCell ⟨B, 4, none⟩ (.int .i64 (y : Int))) lo B { s with why := y } ∧ Below lo w (V.setCell ⟨B, 4, none⟩ (.int .i64 (y : Int))) ∧ Keep w (V.setCell ⟨B, 4, none⟩ (.int .i64 (y : Int))) B :=
  tk_fin (s' := { s with why := y }) h.tk.blk (Go.Joins.block_setCell (i := 4) h.tk.blk (.int .i64 (y : Int))) (chg1 V B 4 _) h.below h.keep hlo hB h.tk.hq h.tk.hn h.tk.hp h.tk.own h.tk.ok h.tk.pown
/-- what stands behind an append to what was found: the scan's block is as it was -/
structure VA (w V : World) (lo B : Nat) (s : S) (q : List Fq) (Af : Option Addr) (nf cf : Nat) (Ap : Option Addr) (np cp rb : Nat) (rc : Array Value) (kx : Fq) : Prop where
  below : Below lo w V
  blk : V.heap[B]? = some (.cells #[.int .u32 (s.id : Int), .slice Af nf cf, .slice Ap np cp, .int .i64 (s.stop : Int), .int .i64 (s.why : Int)] 44 (0, 0))
  hq : q.map (·.1) = s.found
  hn : q.length = nf
  hp : s.passed.length = np
  ok : ∀ x ∈ q, FqOk V lo x
  keep : Keep w V B
  rk : V.heap[rb]? = some (.cells rc 51 (0, 0))
  kx : FqOk V lo kx
theorem VA.blk' (h : VA w V lo B s q Af nf cf Ap np cp rb rc kx) (h0 : s.id = i0) (h3 : s.stop = i3) (h4 : s.why = i4) : V.heap[B]? = some (.cells #[.int .u32 (i0 : Int), .slice Af nf cf, .slice Ap np cp, .int .i64 (i3 : Int), .int .i64 (i4 : Int)] 44 (0, 0)) := by
  subst h0 h3 h4
  exact h.blk
theorem VB.va {N : Nat → Prop} {T : TypeId} (h : VB w V lo B s q Af nf cf Ap np cp rb rc kx) (hty : Typed V T N) (t1 : T ≠ 5) (t2 : T ≠ 44) (t5 : T ≠ 51) (hc : Chg N V X) (hb : Below lo V X) : VA w X lo B s q Af nf cf Ap np cp rb rc kx :=
  ⟨h.below.trans hb, hty.keep hc h.tk.blk t2, h.tk.hq, h.tk.hn, h.tk.hp, fun x hx => (h.tk.ok x hx).apart hty t1 hc, h.keep.trans (fun k arr z _ hh => hty.keep hc hh t2), hty.keep hc h.rk t5, h.kx.apart hty t1 hc⟩
theorem VA.found {Y : World} {A7 : Option Addr} {c7 : Nat} {z : Nat} {r : Rc.Rec} {k1 k2 : Value} (h : VA w X lo B s q Af nf cf Ap np cp rb rc kx) (hB : lo ≤ B) (hlo : lo ≤ w.heap.size) (e : s.id = i0 ∧ s.stop = i3 ∧ s.why = i4) (hkx : kx = (⟨i3, z, r⟩, k1, k2))
    (hown : X.ownsRow lo 56 9 (.slice A7 (nf + 1) c7) (nf + 1) (rowF i0 q ++ Fq.cells i0 kx)) (hp : X.ownsRow lo 3 1 (.slice Ap np cp) np (s.passed.map fun n : Nat => Value.int .i64 (n : Int))) (hc : Chg (fun i => i = B) X Y)
    (hY : Y.heap[B]? = some (.cells #[.int .u32 (i0 : Int), .slice A7 (nf + 1) c7, .slice Ap np cp, .int .i64 ((i3 + z : Nat) : Int), .int .i64 (i4 : Int)] 44 (0, 0))) :
    ScanB Y lo B { s with found := s.found ++ [⟨s.stop, z, r⟩], stop := s.stop + z } ∧ Below lo w Y ∧ Keep w Y B := by
  obtain ⟨rfl, rfl, rfl⟩ := e
  refine tk_fin (s' := { s with found := s.found ++ [⟨s.stop, z, r⟩], stop := s.stop + z }) (q := q ++ [kx]) h.blk hY hc h.below h.keep hlo hB ?_ ?_ h.hp ?_ ?_ hp
  · rw [List.map_append, h.hq, hkx]; rfl
  · rw [List.length_append, h.hn]; rfl
  · rw [rowF_snoc]; exact hown
  · intro x hx
    rcases List.mem_append.1 hx with hx | hx
    · exact h.ok x hx
    · rw [List.mem_singleton.1 hx]; exact h.kx
theorem VA.passed {Y : World} {A7 : Option Addr} {c7 : Nat} {z : Nat} (h : VA w X lo B s q Af nf cf Ap np cp rb rc kx) (hB : lo ≤ B) (hlo : lo ≤ w.heap.size) (e : s.id = i0 ∧ s.stop = i3 ∧ s.why = i4)
    (hf : X.ownsRow lo 56 9 (.slice Af nf cf) nf (rowF s.id q)) (hown : X.ownsRow lo 3 1 (.slice A7 (np + 1) c7) (np + 1) ((s.passed.map fun n : Nat => Value.int .i64 (n : Int)) ++ [.int .i64 (i3 : Int)])) (hc : Chg (fun i => i = B) X Y)
    (hY : Y.heap[B]? = some (.cells #[.int .u32 (i0 : Int), .slice Af nf cf, .slice A7 (np + 1) c7, .int .i64 ((i3 + z : Nat) : Int), .int .i64 (i4 : Int)] 44 (0, 0))) :
    ScanB Y lo B { s with passed := s.passed ++ [s.stop], stop := s.stop + z } ∧ Below lo w Y ∧ Keep w Y B := by
  obtain ⟨rfl, rfl, rfl⟩ := e
  refine tk_fin (s' := { s with passed := s.passed ++ [s.stop], stop := s.stop + z }) (q := q) h.blk hY hc h.below h.keep hlo hB h.hq h.hn ?_ hf h.ok ?_
  · show (s.passed ++ [s.stop]).length = np + 1
    rw [List.length_append, h.hp]; rfl
  · show X.ownsRow lo 3 1 _ _ ((s.passed ++ [s.stop]).map _)
    rw [List.map_append]; exact hown
end
theorem s10 {V : World} {B rb gl : Nat} {a0 a1 a2 a3 a4 b0 b1 b2 b3 b4 b5 c0 c1 : Value} (h : V.cell? ⟨B, 0, none⟩ = some a0 ∧ V.cell? ⟨B, 1, none⟩ = some a1 ∧ V.cell? ⟨B, 2, none⟩ = some a2 ∧ V.cell? ⟨B, 3, none⟩ = some a3 ∧ V.cell? ⟨B, 4, none⟩ = some a4)
    (k : V.cell? ⟨rb, 0, none⟩ = some b0 ∧ V.cell? ⟨rb, 1, none⟩ = some b1 ∧ V.cell? ⟨rb, 2, none⟩ = some b2 ∧ V.cell? ⟨rb, 3, none⟩ = some b3 ∧ V.cell? ⟨rb, 4, none⟩ = some b4 ∧ V.cell? ⟨rb, 5, none⟩ = some b5) (h0 : V.cell? ⟨gl, 0, none⟩ = some c0) (h1 : V.cell? ⟨gl, 1, none⟩ = some c1) :
    V.cell? ⟨B, 0, none⟩ = some a0 ∧ V.cell? ⟨B, 1, none⟩ = some a1 ∧ V.cell? ⟨B, 2, none⟩ = some a2 ∧ V.cell? ⟨B, 3, none⟩ = some a3 ∧ V.cell? ⟨B, 4, none⟩ = some a4 ∧ V.cell? ⟨rb, 0, none⟩ = some b0 ∧ V.cell? ⟨rb, 1, none⟩ = some b1 ∧ V.cell? ⟨rb, 2, none⟩ = some b2 ∧ V.cell? ⟨rb, 3, none⟩ = some b3 ∧ V.cell? ⟨rb, 4, none⟩ = some b4 ∧ V.cell? ⟨rb, 5, none⟩ = some b5 ∧
      V.cell? ⟨gl, 0, none⟩ = some c0 ∧ V.cell? ⟨gl, 1, none⟩ = some c1 := ⟨h.1, h.2.1, h.2.2.1, h.2.2.2.1, h.2.2.2.2, k.1, k.2.1, k.2.2.1, k.2.2.2.1, k.2.2.2.2.1, k.2.2.2.2.2, h0, h1⟩
set_option maxRecDepth 100000 in
set_option maxHeartbeats 16000000 in
theorem stake {w : World} {lo B : Nat} {s : S} {rest : List UInt8} {v : Value} (h : ScanB w lo B s) (hB : lo ≤ B) (hlo : lo ≤ w.heap.size) (hv : Bs w lo v rest) (ht : RTab w) (hrl : rest.length ≤ 100000) (hst : s.stop ≤ 100000) (hm : s.found.length + s.passed.length ≤ 100000) (hpos : ∀ f ∈ s.found, 0 ≤ f.r.seq) :
    Calls Tryz.prog 78 #[.pointer (some ⟨B, 0, none⟩), v] w fun e w' => (∃ u, e = .returned u) ∧ ScanB w' lo B (tk s rest) ∧ Below lo w w' ∧ Keep w w' B := by
  obtain ⟨⟨rq, z, e⟩, hq⟩ : ∃ y, Rc.getQ rest = y := ⟨_, rfl⟩
  have HGA := Lib.hid (get_any hq)
  obtain ⟨q, Af, nf, cf, Ap, np, cp, hI⟩ := h.open
  have HI := Lib.hid hI
  have HGet := Lib.hid (rget_q v rest lo w hv hlo (by omega) ht rq z e hq)
  obtain ⟨Av, cv, rfl, _, _⟩ := hv
  have HQ := Lib.hid hq
  have HLO := Lib.hid (And.intro hB hlo)
  have HPOS := Lib.hid hpos
  obtain ⟨i0, hsid⟩ : ∃ i0, s.id = i0 := ⟨_, rfl⟩
  obtain ⟨i3, hstp⟩ : ∃ i3, s.stop = i3 := ⟨_, rfl⟩
  obtain ⟨i4, hswh⟩ : ∃ i4, s.why = i4 := ⟨_, rfl⟩
  obtain ⟨ls, hls⟩ : ∃ ls, ls = lastF s.found := ⟨_, rfl⟩
  have HS := Lib.hid (And.intro hsid (And.intro hstp hswh))
  have HLS := Lib.hid hls
  have hzr : z ≤ rest.length ∨ z = 0 ∨ e = 22 := by
    by_cases h1 : e = 22
    · exact .inr (.inr h1)
    · by_cases h2 : z = 0
      · exact .inr (.inl h2)
      · exact .inl (HGA.out.2.1 h1 h2)
  have HZR := Lib.hid hzr
  have HFL := Lib.hid (show s.found.length ≤ 100000 ∧ nf ≤ 100000 ∧ np ≤ 100000 from ⟨by omega, by rw [← hI.hn]; have := congrArg List.length hI.hq; rw [List.length_map] at this; omega, by rw [← hI.hp]; omega⟩)
  have hnf := HFL.out.2.1
  have hnp := HFL.out.2.2
  rw [hstp] at hst
  have hcf : nf ≤ cf ∧ cf ≤ maxLen := by
    obtain ⟨A', c', e', hcf1, hcf2, _⟩ := own_slice hI.own
    injection e' with e1 e2 e3
    rw [e3]
    exact ⟨hcf1, hcf2⟩
  have hcp : np ≤ cp ∧ cp ≤ maxLen := by
    obtain ⟨A', c', e', hcf1, hcf2, _⟩ := own_slice hI.pown
    injection e' with e1 e2 e3
    rw [e3]
    exact ⟨hcf1, hcf2⟩
  obtain ⟨hcf1, hcf2⟩ := hcf
  obtain ⟨hcp1, hcp2⟩ := hcp
  clear hI hq hlo hB hpos h hls hzr hm
  go_enter Tryz.func78, Tryz.ntmps78
  go_wp2_with fail
  refine HGet.out.mono ?_
  rintro e' w2 ⟨rv, rfl, hrv, hb2⟩
  obtain ⟨kv, vv, rfl, hk, hw⟩ := NewRec.recIn hrv
  obtain ⟨K1, k1, rfl, _, _⟩ := hk.bs
  obtain ⟨K2, k2, rfl, _, _⟩ := hw.bs
  obtain ⟨n1, hn1⟩ : ∃ n1, n1 = rq.key.length := ⟨_, rfl⟩
  obtain ⟨n2, hn2⟩ : ∃ n2, n2 = rq.val.length := ⟨_, rfl⟩
  rw [← hn1] at hk ⊢
  rw [← hn2] at hw ⊢
  unfold recV
  obtain ⟨rb, hrb⟩ : ∃ rb, rb = w2.heap.size := ⟨_, rfl⟩
  obtain ⟨W3, hW3⟩ : ∃ W3, W3 = w2.alloc (.cells #[.int .u64 rq.seq, .int .i64 rq.kind, .slice K1 n1 k1, .slice K2 n2 k2, .int .u32 rq.seg, .int .u32 rq.off] 51) := ⟨_, rfl⟩
  have hb3 : Below w2.heap.size w2 W3 := by rw [hW3]; exact (Below.refl _ _).alloc (Nat.le_refl _) _
  have hbx3 : W3.heap[rb]? = some (.cells #[.int .u64 rq.seq, .int .i64 rq.kind, .slice K1 n1 k1, .slice K2 n2 k2, .int .u32 rq.seg, .int .u32 rq.off] 51 (0, 0)) := by rw [hW3, hrb]; exact heap_alloc_new w2 _
  obtain ⟨rc, hrc⟩ : ∃ rc : Array Value, rc = #[.int .u64 rq.seq, .int .i64 rq.kind, .slice K1 n1 k1, .slice K2 n2 k2, .int .u32 rq.seg, .int .u32 rq.off] := ⟨_, rfl⟩
  obtain ⟨kx, hkx⟩ : ∃ kx : Fq, kx = (⟨i3, z, rq⟩, .slice K1 n1 k1, .slice K2 n2 k2) := ⟨_, rfl⟩
  have hb23 : Below w.heap.size w W3 := hb2.trans (hb3.mono hb2.size)
  have HVW3 := Lib.hid (show VB w W3 lo B s q Af nf cf Ap np cp rb rc kx from ⟨hb23.mono HLO.out.2, HI.out.on hb23, Keep.of_below hb23, by rw [hrc]; exact hbx3, by rw [hrb]; exact Nat.le_trans HLO.out.2 hb2.size, by rw [hkx]; exact ⟨(hk.on hb3).mono HLO.out.2, (hw.on hb3).mono HLO.out.2⟩⟩)
  have HRC := Lib.hid (And.intro hrc hkx)
  clear hk hw hn1 hn2 HGet HI hb3 hbx3 hb2 hb23 hrc hkx
  obtain ⟨y0, y1, y2, y3, y4⟩ := rw5 (HVW3.out.tk.blk' hsid hstp hswh)
  obtain ⟨g0, g1, g2, g3, g4⟩ := rw5f (HVW3.out.tk.blk' hsid hstp hswh)
  have hW4 := hW3.symm
  have hrb4 := hrb.symm
  clear hW3 hrb
  have e3 : ¬ (16777216 : Int) < (i3 : Int) := by omega
  have hwp : IntKind.u32.wrap (i3 : Int) = (i3 : Int) := IntWalk.u32_in _ (by omega)
  rcases HGA.out.1 with rfl | rfl | rfl
  · rw [show ((0 : Nat) : Int) = 0 from rfl]
    have hz1 : z ≠ 0 := HGA.out.2.2 rfl
    have hz8 : ¬ (z : Int) = 0 := by omega
    have r0 := (HVW3.out.rec6 HRC.out.1).1
    go_wp2_with fail
    clear y0 y1 y2 y3 y4 g0 g1 g2 g3 g4 r0 hW4 hrb4
    refine wp_region_noPanic ?_
    refine wp_region_held_drew (S := fun w' => w'.cell? ⟨B, 0, none⟩ = some (.int .u32 (i0 : Int)) ∧ w'.cell? ⟨B, 1, none⟩ = some (.slice Af nf cf) ∧ w'.cell? ⟨B, 2, none⟩ = some (.slice Ap np cp) ∧ w'.cell? ⟨B, 3, none⟩ = some (.int .i64 (i3 : Int)) ∧ w'.cell? ⟨B, 4, none⟩ = some (.int .i64 (i4 : Int)) ∧ w'.cell? ⟨rb, 0, none⟩ = some (.int .u64 rq.seq)) (by kernel_rfl) (show _ from ⟨(rw5 (HVW3.out.tk.blk' HS.out.1 HS.out.2.1 HS.out.2.2)).1, (rw5 (HVW3.out.tk.blk' HS.out.1 HS.out.2.1 HS.out.2.2)).2.1, (rw5 (HVW3.out.tk.blk' HS.out.1 HS.out.2.1 HS.out.2.2)).2.2.1, (rw5 (HVW3.out.tk.blk' HS.out.1 HS.out.2.1 HS.out.2.2)).2.2.2.1, (rw5 (HVW3.out.tk.blk' HS.out.1 HS.out.2.1 HS.out.2.2)).2.2.2.2, (HVW3.out.rec6 HRC.out.1).1⟩) (fun hHeld => ?_)
    have HVV := Lib.hid (show VB w W3.drew lo B s q Af nf cf Ap np cp rb rc kx from HVW3.out.drew HLO.out.2)
    generalize World.drew W3 = V at *
    clear HVW3
    refine wpAnyH_take (i := 0) (v := ?_) opAt_0 (by kernel_rfl) (by kernel_rfl) (by kernel_rfl) (fun _ _ _ h => h) (Or.inl ⟨by rfl, ?_⟩) (by assumption) ?_
    rotate_left
    · (intro w hSw; obtain ⟨y0, y1, y2, y3, y4, r0⟩ := hSw; go_simp; try with_reducible rfl)
    try simp only [Act.put, List.setIfInBounds_toArray, List.set_cons_zero, List.set_cons_succ]
    refine wpAnyH_take (i := 1) (v := ?_) opAt_1 (by kernel_rfl) (by kernel_rfl) (by kernel_rfl) (fun _ _ _ h => h) (Or.inl ⟨by rfl, ?_⟩) (by assumption) ?_
    rotate_left
    · (intro w hSw; obtain ⟨y0, y1, y2, y3, y4, r0⟩ := hSw; go_simp; try with_reducible rfl)
    try simp only [Act.put, List.setIfInBounds_toArray, List.set_cons_zero, List.set_cons_succ]
    refine wpAnyH_take (i := 2) (v := ?_) opAt_2 (by kernel_rfl) (by kernel_rfl) (by kernel_rfl) (fun _ _ _ h => h) (Or.inl ⟨by rfl, ?_⟩) (by assumption) ?_
    rotate_left
    · (intro w hSw; obtain ⟨y0, y1, y2, y3, y4, r0⟩ := hSw; go_simp; try with_reducible rfl)
    try simp only [Act.put, List.setIfInBounds_toArray, List.set_cons_zero, List.set_cons_succ]
    refine wpAnyH_take (i := 3) (v := ?_) opAt_3 (by kernel_rfl) (by kernel_rfl) (by kernel_rfl) (fun _ _ _ h => h) (Or.inl ⟨by rfl, ?_⟩) (by assumption) ?_
    rotate_left
    · (intro w hSw; obtain ⟨y0, y1, y2, y3, y4, r0⟩ := hSw; go_simp; try with_reducible rfl)
    try simp only [Act.put, List.setIfInBounds_toArray, List.set_cons_zero, List.set_cons_succ]
    refine wpAnyH_take (i := 4) (v := ?_) opAt_4 (by kernel_rfl) (by kernel_rfl) (by kernel_rfl) (fun _ _ _ h => h) (Or.inl ⟨by rfl, ?_⟩) (by assumption) ?_
    rotate_left
    · (intro w hSw; obtain ⟨y0, y1, y2, y3, y4, r0⟩ := hSw; go_simp; try with_reducible rfl)
    try simp only [Act.put, List.setIfInBounds_toArray, List.set_cons_zero, List.set_cons_succ]
    refine wpAnyH_take (i := 5) (v := ?_) opAt_5 (by kernel_rfl) (by kernel_rfl) (by kernel_rfl) (fun _ _ _ h => h) (Or.inl ⟨by rfl, ?_⟩) (by assumption) ?_
    rotate_left
    · (intro w hSw; obtain ⟨y0, y1, y2, y3, y4, r0⟩ := hSw; go_simp; try with_reducible rfl)
    try simp only [Act.put, List.setIfInBounds_toArray, List.set_cons_zero, List.set_cons_succ]
    refine wpAnyH_take (i := 6) (v := ?_) opAt_6 (by kernel_rfl) (by kernel_rfl) (by kernel_rfl) (fun _ _ _ h => h) (Or.inl ⟨by rfl, ?_⟩) (by assumption) ?_
    rotate_left
    · (intro w hSw; obtain ⟨y0, y1, y2, y3, y4, r0⟩ := hSw; go_simp; try with_reducible rfl)
    try simp only [Act.put, List.setIfInBounds_toArray, List.set_cons_zero, List.set_cons_succ]
    refine wpAnyH_take (i := 7) (v := ?_) opAt_7 (by kernel_rfl) (by kernel_rfl) (by kernel_rfl) (fun _ _ _ h => h) (Or.inl ⟨by rfl, ?_⟩) (by assumption) ?_
    rotate_left
    · (intro w hSw; obtain ⟨y0, y1, y2, y3, y4, r0⟩ := hSw; go_simp; try with_reducible rfl)
    try simp only [Act.put, List.setIfInBounds_toArray, List.set_cons_zero, List.set_cons_succ]
    refine wpAnyH_ready (rs := [8]) (by kernel_rfl) (by simp) ?_
    refine AllReadyH.cons rfl (fun K hK => ?_) AllReadyH.nil
    go_simp
    refine (slast (HVV.out.scanV HS.out) (by have := HFL.out.1; omega) HPOS.out).mono ?_
    rintro e V1 ⟨rfl, hbn⟩
    have HVV1 := Lib.hid (HVV.out.on hbn HLO.out.2)
    rw [← HLS.out]
    by_cases hsq : rq.seq ≤ (ls : Int)
    · have j1 : decide (rq.seq ≤ (ls : Int)) = true := decide_eq_true hsq
      go_wp2_with fail
      refine hK.out _ _ (show _ from ⟨(rw5 (HVV1.out.tk.blk' HS.out.1 HS.out.2.1 HS.out.2.2)).1, (rw5 (HVV1.out.tk.blk' HS.out.1 HS.out.2.1 HS.out.2.2)).2.1, (rw5 (HVV1.out.tk.blk' HS.out.1 HS.out.2.1 HS.out.2.2)).2.2.1, (rw5 (HVV1.out.tk.blk' HS.out.1 HS.out.2.1 HS.out.2.2)).2.2.2.1, (rw5 (HVV1.out.tk.blk' HS.out.1 HS.out.2.1 HS.out.2.2)).2.2.2.2, (HVV1.out.rec6 HRC.out.1).1⟩) (fun hHeld => ?_)
      clear hK K
      try simp only [Act.put, List.setIfInBounds_toArray, List.set_cons_zero, List.set_cons_succ]
      refine wpAnyH_take (i := 9) (v := ?_) opAt_9 (by kernel_rfl) (by kernel_rfl) (by kernel_rfl) (fun _ _ _ h => h) (Or.inl ⟨by rfl, ?_⟩) (by assumption) ?_
      rotate_left
      · (intro w hSw; obtain ⟨y0, y1, y2, y3, y4, r0⟩ := hSw; go_simp; try with_reducible rfl)
      try simp only [Act.put, List.setIfInBounds_toArray, List.set_cons_zero, List.set_cons_succ]
      refine wpAnyH_take (i := 10) (v := ?_) opAt_10 (by kernel_rfl) (by kernel_rfl) (by kernel_rfl) (fun _ _ _ h => h) (Or.inl ⟨by rfl, ?_⟩) (by assumption) ?_
      rotate_left
      · (intro w hSw; obtain ⟨y0, y1, y2, y3, y4, r0⟩ := hSw; go_simp; try with_reducible rfl)
      try simp only [Act.put, List.setIfInBounds_toArray, List.set_cons_zero, List.set_cons_succ]
      refine wpAnyH_take (i := 11) (v := ?_) opAt_11 (by kernel_rfl) (by kernel_rfl) (by kernel_rfl) (fun _ _ _ h => h) (Or.inl ⟨by rfl, ?_⟩) (by assumption) ?_
      rotate_left
      · (intro w hSw; obtain ⟨y0, y1, y2, y3, y4, r0⟩ := hSw; go_simp; try with_reducible rfl)
      try simp only [Act.put, List.setIfInBounds_toArray, List.set_cons_zero, List.set_cons_succ]
      refine wpAnyH_done (by kernel_rfl) ?_ _
      refine NoPanic.normal ?_
      clear hHeld
      obtain ⟨y0, y1, y2, y3, y4⟩ := rw5 (HVV1.out.tk.blk' HS.out.1 HS.out.2.1 HS.out.2.2)
      obtain ⟨g0, g1, g2, g3, g4⟩ := rw5f (HVV1.out.tk.blk' HS.out.1 HS.out.2.1 HS.out.2.2)
      go_wp2_with fail
      have HT := Lib.hid (show tk s rest = { s with why := 23 } by unfold tk; rw [HQ.out]; rw [if_neg (show ¬ (0 : Nat) = 22 by decide), if_pos (Or.inr ⟨rfl, by rw [← HLS.out]; exact hsq⟩)])
      refine bodyPost_ret (results_none rfl _ _ _) rfl ⟨⟨_, rfl⟩, ?_⟩
      rw [show tk s rest = { s with why := 23 } from HT.out]
      exact HVV1.out.why HLO.out.1 HLO.out.2 23
    · have j1 : decide (rq.seq ≤ (ls : Int)) = false := decide_eq_false hsq
      go_wp2_with fail
      refine hK.out _ _ (show _ from ⟨(rw5 (HVV1.out.tk.blk' HS.out.1 HS.out.2.1 HS.out.2.2)).1, (rw5 (HVV1.out.tk.blk' HS.out.1 HS.out.2.1 HS.out.2.2)).2.1, (rw5 (HVV1.out.tk.blk' HS.out.1 HS.out.2.1 HS.out.2.2)).2.2.1, (rw5 (HVV1.out.tk.blk' HS.out.1 HS.out.2.1 HS.out.2.2)).2.2.2.1, (rw5 (HVV1.out.tk.blk' HS.out.1 HS.out.2.1 HS.out.2.2)).2.2.2.2, (HVV1.out.rec6 HRC.out.1).1⟩) (fun hHeld => ?_)
      clear hK K
      try simp only [Act.put, List.setIfInBounds_toArray, List.set_cons_zero, List.set_cons_succ]
      refine wpAnyH_take (i := 9) (v := ?_) opAt_9 (by kernel_rfl) (by kernel_rfl) (by kernel_rfl) (fun _ _ _ h => h) (Or.inl ⟨by rfl, ?_⟩) (by assumption) ?_
      rotate_left
      · (intro w hSw; obtain ⟨y0, y1, y2, y3, y4, r0⟩ := hSw; go_simp; try with_reducible rfl)
      try simp only [Act.put, List.setIfInBounds_toArray, List.set_cons_zero, List.set_cons_succ]
      refine wpAnyH_take (i := 10) (v := ?_) opAt_10 (by kernel_rfl) (by kernel_rfl) (by kernel_rfl) (fun _ _ _ h => h) (Or.inl ⟨by rfl, ?_⟩) (by assumption) ?_
      rotate_left
      · (intro w hSw; obtain ⟨y0, y1, y2, y3, y4, r0⟩ := hSw; go_simp; try with_reducible rfl)
      try simp only [Act.put, List.setIfInBounds_toArray, List.set_cons_zero, List.set_cons_succ]
      refine wpAnyH_take (i := 11) (v := ?_) opAt_11 (by kernel_rfl) (by kernel_rfl) (by kernel_rfl) (fun _ _ _ h => h) (Or.inl ⟨by rfl, ?_⟩) (by assumption) ?_
      rotate_left
      · (intro w hSw; obtain ⟨y0, y1, y2, y3, y4, r0⟩ := hSw; go_simp; try with_reducible rfl)
      try simp only [Act.put, List.setIfInBounds_toArray, List.set_cons_zero, List.set_cons_succ]
      refine wpAnyH_done (by kernel_rfl) ?_ _
      refine NoPanic.normal ?_
      clear hHeld
      obtain ⟨y0, y1, y2, y3, y4⟩ := rw5 (HVV1.out.tk.blk' HS.out.1 HS.out.2.1 HS.out.2.2)
      obtain ⟨g0, g1, g2, g3, g4⟩ := rw5f (HVV1.out.tk.blk' HS.out.1 HS.out.2.1 HS.out.2.2)
      go_wp2_with fail
      clear y0 y1 y2 y3 y4 g0 g1 g2 g3 g4
      refine wp_region_noPanic ?_
      refine wp_region_held_drew (S := fun w' => w'.cell? ⟨B, 0, none⟩ = some (.int .u32 (i0 : Int)) ∧ w'.cell? ⟨B, 1, none⟩ = some (.slice Af nf cf) ∧ w'.cell? ⟨B, 2, none⟩ = some (.slice Ap np cp) ∧ w'.cell? ⟨B, 3, none⟩ = some (.int .i64 (i3 : Int)) ∧ w'.cell? ⟨B, 4, none⟩ = some (.int .i64 (i4 : Int))) (by kernel_rfl) (rw5 (HVV1.out.tk.blk' HS.out.1 HS.out.2.1 HS.out.2.2)) (fun hHeld => ?_)
      have HVV2 := Lib.hid (show VB w V1.drew lo B s q Af nf cf Ap np cp rb rc kx from HVV1.out.drew HLO.out.2)
      generalize World.drew V1 = V2 at *
      clear HVV1
      refine wpAnyH_take (i := 0) (v := ?_) opAt_0 (by kernel_rfl) (by kernel_rfl) (by kernel_rfl) (fun _ _ _ h => h) (Or.inl ⟨by rfl, ?_⟩) (by assumption) ?_
      rotate_left
      · (intro w hSw; obtain ⟨y0, y1, y2, y3, y4⟩ := hSw; go_simp; try with_reducible rfl)
      try simp only [Act.put, List.setIfInBounds_toArray, List.set_cons_zero, List.set_cons_succ]
      refine wpAnyH_take (i := 1) (v := ?_) opAt_1 (by kernel_rfl) (by kernel_rfl) (by kernel_rfl) (fun _ _ _ h => h) (Or.inl ⟨by rfl, ?_⟩) (by assumption) ?_
      rotate_left
      · (intro w hSw; obtain ⟨y0, y1, y2, y3, y4⟩ := hSw; go_simp; try with_reducible rfl)
      try simp only [Act.put, List.setIfInBounds_toArray, List.set_cons_zero, List.set_cons_succ]
      refine wpAnyH_take (i := 2) (v := ?_) opAt_2 (by kernel_rfl) (by kernel_rfl) (by kernel_rfl) (fun _ _ _ h => h) (Or.inl ⟨by rfl, ?_⟩) (by assumption) ?_
      rotate_left
      · (intro w hSw; obtain ⟨y0, y1, y2, y3, y4⟩ := hSw; go_simp; try with_reducible rfl)
      try simp only [Act.put, List.setIfInBounds_toArray, List.set_cons_zero, List.set_cons_succ]
      refine wpAnyH_take (i := 3) (v := ?_) opAt_3 (by kernel_rfl) (by kernel_rfl) (by kernel_rfl) (fun _ _ _ h => h) (Or.inl ⟨by rfl, ?_⟩) (by assumption) ?_
      rotate_left
      · (intro w hSw; obtain ⟨y0, y1, y2, y3, y4⟩ := hSw; go_simp; try with_reducible rfl)
      try simp only [Act.put, List.setIfInBounds_toArray, List.set_cons_zero, List.set_cons_succ]
      refine wpAnyH_take (i := 4) (v := ?_) opAt_4 (by kernel_rfl) (by kernel_rfl) (by kernel_rfl) (fun _ _ _ h => h) (Or.inl ⟨by rfl, ?_⟩) (by assumption) ?_
      rotate_left
      · (intro w hSw; obtain ⟨y0, y1, y2, y3, y4⟩ := hSw; go_simp; try with_reducible rfl)
      try simp only [Act.put, List.setIfInBounds_toArray, List.set_cons_zero, List.set_cons_succ]
      refine wpAnyH_take (i := 5) (v := ?_) opAt_5 (by kernel_rfl) (by kernel_rfl) (by kernel_rfl) (fun _ _ _ h => h) (Or.inl ⟨by rfl, ?_⟩) (by assumption) ?_
      rotate_left
      · (intro w hSw; obtain ⟨y0, y1, y2, y3, y4⟩ := hSw; go_simp; try with_reducible rfl)
      try simp only [Act.put, List.setIfInBounds_toArray, List.set_cons_zero, List.set_cons_succ]
      refine wpAnyH_take (i := 6) (v := ?_) opAt_6 (by kernel_rfl) (by kernel_rfl) (by kernel_rfl) (fun _ _ _ h => h) (Or.inl ⟨by rfl, ?_⟩) (by assumption) ?_
      rotate_left
      · (intro w hSw; obtain ⟨y0, y1, y2, y3, y4⟩ := hSw; go_simp; try with_reducible rfl)
      try simp only [Act.put, List.setIfInBounds_toArray, List.set_cons_zero, List.set_cons_succ]
      refine wpAnyH_take (i := 7) (v := ?_) opAt_7 (by kernel_rfl) (by kernel_rfl) (by kernel_rfl) (fun _ _ _ h => h) (Or.inl ⟨by rfl, ?_⟩) (by assumption) ?_
      rotate_left
      · (intro w hSw; obtain ⟨y0, y1, y2, y3, y4⟩ := hSw; go_simp; try with_reducible rfl)
      try simp only [Act.put, List.setIfInBounds_toArray, List.set_cons_zero, List.set_cons_succ]
      refine wpAnyH_take (i := 8) (v := ?_) opAt_8 (by kernel_rfl) (by kernel_rfl) (by kernel_rfl) (fun _ _ _ h => h) (Or.inl ⟨by rfl, ?_⟩) (by assumption) ?_
      rotate_left
      · (intro w hSw; obtain ⟨y0, y1, y2, y3, y4⟩ := hSw; go_simp; try with_reducible rfl)
      try simp only [Act.put, List.setIfInBounds_toArray, List.set_cons_zero, List.set_cons_succ]
      refine wpAnyH_take (i := 9) (v := ?_) opAt_9 (by kernel_rfl) (by kernel_rfl) (by kernel_rfl) (fun _ _ _ h => h) (Or.inl ⟨by rfl, ?_⟩) (by assumption) ?_
      rotate_left
      · (intro w hSw; obtain ⟨y0, y1, y2, y3, y4⟩ := hSw; go_simp; try with_reducible rfl)
      try simp only [Act.put, List.setIfInBounds_toArray, List.set_cons_zero, List.set_cons_succ]
      refine wpAnyH_ready (rs := [10]) (by kernel_rfl) (by simp) ?_
      refine AllReadyH.cons rfl (fun K hK => ?_) AllReadyH.nil
      go_simp
      obtain ⟨gl, hgl⟩ : ∃ gl, V2.heap.size = gl := ⟨_, rfl⟩
      rw [hgl]
      obtain ⟨V3, hV3⟩ : ∃ Vn, V2.alloc (.cells #[.int .u32 0, .int .u32 0] 49) = Vn := ⟨_, rfl⟩
      rw [hV3]
      have hbn : Below V2.heap.size V2 V3 := by rw [← hV3]; exact (Below.refl _ _).alloc (Nat.le_refl _) _
      have hl0 : V3.heap[gl]? = some (.cells #[.int .u32 0, .int .u32 0] 49 (0, 0)) := by rw [← hV3, ← hgl]; exact heap_alloc_new V2 _
      have HVV3 := Lib.hid (HVV2.out.on hbn HLO.out.2)
      refine hK.out _ _ (rw5 (HVV3.out.tk.blk' HS.out.1 HS.out.2.1 HS.out.2.2)) (fun hHeld => ?_)
      clear hK K
      try simp only [Act.put, List.setIfInBounds_toArray, List.set_cons_zero, List.set_cons_succ]
      refine wpAnyH_ready (rs := [11]) (by kernel_rfl) (by simp) ?_
      refine AllReadyH.cons rfl (fun K hK => ?_) AllReadyH.nil
      have hf0 : V3.frozen? ⟨gl, 0, none⟩ = false ∧ V3.frozen? ⟨gl, 1, none⟩ = false := by constructor <;> simp [World.frozen?, hl0]
      obtain ⟨hf0, hf1⟩ := hf0
      have z0 : V3.cell? ⟨gl, 0, none⟩ = some (.int .u32 0) := cell_of_row V3 gl 0 _ _ _ hl0
      have z1 : V3.cell? ⟨gl, 1, none⟩ = some (.int .u32 0) := cell_of_row V3 gl 1 _ _ _ hl0
      go_simp
      have hl4 := Go.Joins.block_setCell (i := 1) (Go.Joins.block_setCell (i := 0) hl0 (.int .u32 (i0 : Int))) (.int .u32 (i3 : Int))
      have hl4 : _ = some (Obj.cells #[.int .u32 (i0 : Int), .int .u32 (i3 : Int)] 49 (0, 0)) := hl4
      have hc4 := (chg1 V3 gl 0 (.int .u32 (i0 : Int))).setCell (p := ⟨gl, 1, none⟩) rfl (.int .u32 (i3 : Int))
      have hty : Typed V3 49 (fun i => i = gl) := fun g e => by obtain rfl : g = gl := e; exact ⟨_, _, hl0⟩
      have HVV4 := Lib.hid (HVV3.out.chg hty (by decide) (by decide) (by decide) (by decide) (by decide) hc4 (fun i e => by have := HVV2.out.below.size; have := HLO.out.2; omega) HLO.out.2)
      generalize (V3.setCell ⟨gl, 0, none⟩ (.int .u32 (i0 : Int))).setCell ⟨gl, 1, none⟩ (.int .u32 (i3 : Int)) = V4 at *
      have HLC := Lib.hid hl4
      clear hc4 hl4 hty hl0 hf0 hf1 z0 z1 hV3 hgl hbn
      refine hK.out _ _ (rw5 (HVV4.out.tk.blk' HS.out.1 HS.out.2.1 HS.out.2.2)) (fun hHeld => ?_)
      clear hK K
      try simp only [Act.put, List.setIfInBounds_toArray, List.set_cons_zero, List.set_cons_succ]
      refine wpAnyH_done (by kernel_rfl) ?_ _
      refine NoPanic.normal ?_
      clear hHeld
      go_wp2_with fail
      refine wp_region_noPanic ?_
      refine OrdL.wpL_region (fun w' => w'.cell? ⟨B, 0, none⟩ = some (.int .u32 (i0 : Int)) ∧ w'.cell? ⟨B, 1, none⟩ = some (.slice Af nf cf) ∧ w'.cell? ⟨B, 2, none⟩ = some (.slice Ap np cp) ∧ w'.cell? ⟨B, 3, none⟩ = some (.int .i64 (i3 : Int)) ∧ w'.cell? ⟨B, 4, none⟩ = some (.int .i64 (i4 : Int)) ∧ w'.cell? ⟨rb, 0, none⟩ = some (.int .u64 rq.seq) ∧ w'.cell? ⟨rb, 1, none⟩ = some (.int .i64 rq.kind) ∧ w'.cell? ⟨rb, 2, none⟩ = some (.slice K1 n1 k1) ∧ w'.cell? ⟨rb, 3, none⟩ = some (.slice K2 n2 k2) ∧ w'.cell? ⟨rb, 4, none⟩ = some (.int .u32 rq.seg) ∧ w'.cell? ⟨rb, 5, none⟩ = some (.int .u32 rq.off) ∧ w'.cell? ⟨gl, 0, none⟩ = some (.int .u32 (i0 : Int)) ∧ w'.cell? ⟨gl, 1, none⟩ = some (.int .u32 (i3 : Int))) 13 (by kernel_rfl) ?_
      have HVV5 := Lib.hid (show VB w V4.drew lo B s q Af nf cf Ap np cp rb rc kx from HVV4.out.drew HLO.out.2)
      have HLCV5 := Lib.hid (show V4.drew.heap[gl]? = _ from HLC.out)
      generalize World.drew V4 = V5 at *
      clear HVV4 HLC
      have hHeld := s10 (rw5 (HVV5.out.tk.blk' HS.out.1 HS.out.2.1 HS.out.2.2)) (HVV5.out.rec6 HRC.out.1) (cell_of_row V5 gl 0 _ _ _ HLCV5.out) (cell_of_row V5 gl 1 _ _ _ HLCV5.out)
      refine OrdL.wpL_take (i := 0) (v := ?_) opAt_0 [12, 11] (by kernel_rfl) (by kernel_rfl) (by kernel_rfl) (by kernel_rfl) (by kernel_rfl) (by kernel_rfl) (fun _ _ _ h => h) (Or.inl ⟨by rfl, ?_⟩) hHeld ?_
      rotate_left
      · (intro w' hSw; obtain ⟨y0, y1, y2, y3, y4, r0, r1, r2, r3, r4, r5, l0, l1⟩ := hSw; go_simp; try with_reducible rfl)
      try simp only [Act.put, List.setIfInBounds_toArray, List.set_cons_zero, List.set_cons_succ]
      refine OrdL.wpL_take (i := 1) (v := ?_) opAt_1 [10, 4, 3, 2] (by kernel_rfl) (by kernel_rfl) (by kernel_rfl) (by kernel_rfl) (by kernel_rfl) (by kernel_rfl) (fun _ _ _ h => h) (Or.inl ⟨by rfl, ?_⟩) hHeld ?_
      rotate_left
      · (intro w' hSw; obtain ⟨y0, y1, y2, y3, y4, r0, r1, r2, r3, r4, r5, l0, l1⟩ := hSw; go_simp; try with_reducible rfl)
      try simp only [Act.put, List.setIfInBounds_toArray, List.set_cons_zero, List.set_cons_succ]
      refine OrdL.wpL_take (i := 2) (v := ?_) opAt_2 [10, 4, 3] (by kernel_rfl) (by kernel_rfl) (by kernel_rfl) (by kernel_rfl) (by kernel_rfl) (by kernel_rfl) (fun _ _ _ h => h) (Or.inl ⟨by rfl, ?_⟩) hHeld ?_
      rotate_left
      · (intro w' hSw; obtain ⟨y0, y1, y2, y3, y4, r0, r1, r2, r3, r4, r5, l0, l1⟩ := hSw; go_simp; try with_reducible rfl)
      try simp only [Act.put, List.setIfInBounds_toArray, List.set_cons_zero, List.set_cons_succ]
      refine OrdL.wpL_take (i := 3) (v := ?_) opAt_3 [10, 4] (by kernel_rfl) (by kernel_rfl) (by kernel_rfl) (by kernel_rfl) (by kernel_rfl) (by kernel_rfl) (fun _ _ _ h => h) (Or.inl ⟨by rfl, ?_⟩) hHeld ?_
      rotate_left
      · (intro w' hSw; obtain ⟨y0, y1, y2, y3, y4, r0, r1, r2, r3, r4, r5, l0, l1⟩ := hSw; go_simp; try with_reducible rfl)
      try simp only [Act.put, List.setIfInBounds_toArray, List.set_cons_zero, List.set_cons_succ]
      refine OrdL.wpL_take (i := 4) (v := ?_) opAt_4 [10] (by kernel_rfl) (by kernel_rfl) (by kernel_rfl) (by kernel_rfl) (by kernel_rfl) (by kernel_rfl) (fun _ _ _ h => h) (Or.inl ⟨by rfl, ?_⟩) hHeld ?_
      rotate_left
      · (intro w' hSw; obtain ⟨y0, y1, y2, y3, y4, r0, r1, r2, r3, r4, r5, l0, l1⟩ := hSw; go_simp; try with_reducible rfl)
      try simp only [Act.put, List.setIfInBounds_toArray, List.set_cons_zero, List.set_cons_succ]
      refine OrdL.wpL_take (i := 5) (v := ?_) opAt_5 [10, 9, 8] (by kernel_rfl) (by kernel_rfl) (by kernel_rfl) (by kernel_rfl) (by kernel_rfl) (by kernel_rfl) (fun _ _ _ h => h) (Or.inl ⟨by rfl, ?_⟩) hHeld ?_
      rotate_left
      · (intro w' hSw; obtain ⟨y0, y1, y2, y3, y4, r0, r1, r2, r3, r4, r5, l0, l1⟩ := hSw; go_simp; try with_reducible rfl)
      try simp only [Act.put, List.setIfInBounds_toArray, List.set_cons_zero, List.set_cons_succ]
      refine OrdL.wpL_take (i := 6) (v := ?_) opAt_6 [10, 9, 8] (by kernel_rfl) (by kernel_rfl) (by kernel_rfl) (by kernel_rfl) (by kernel_rfl) (by kernel_rfl) (fun _ _ _ h => h) (Or.inl ⟨by rfl, ?_⟩) hHeld ?_
      rotate_left
      · (intro w' hSw; obtain ⟨y0, y1, y2, y3, y4, r0, r1, r2, r3, r4, r5, l0, l1⟩ := hSw; go_simp; try with_reducible rfl)
      try simp only [Act.put, List.setIfInBounds_toArray, List.set_cons_zero, List.set_cons_succ]
      refine OrdL.wpL_take (i := 7) (v := ?_) opAt_7 [10, 9, 8] (by kernel_rfl) (by kernel_rfl) (by kernel_rfl) (by kernel_rfl) (by kernel_rfl) (by kernel_rfl) (fun _ _ _ h => h) (Or.inl ⟨by rfl, ?_⟩) hHeld ?_
      rotate_left
      · (intro w' hSw; obtain ⟨y0, y1, y2, y3, y4, r0, r1, r2, r3, r4, r5, l0, l1⟩ := hSw; go_simp; try with_reducible rfl)
      try simp only [Act.put, List.setIfInBounds_toArray, List.set_cons_zero, List.set_cons_succ]
      refine OrdL.wpL_take (i := 8) (v := ?_) opAt_8 [10, 9] (by kernel_rfl) (by kernel_rfl) (by kernel_rfl) (by kernel_rfl) (by kernel_rfl) (by kernel_rfl) (fun _ _ _ h => h) (Or.inl ⟨by rfl, ?_⟩) hHeld ?_
      rotate_left
      · (intro w' hSw; obtain ⟨y0, y1, y2, y3, y4, r0, r1, r2, r3, r4, r5, l0, l1⟩ := hSw; go_simp; try with_reducible rfl)
      try simp only [Act.put, List.setIfInBounds_toArray, List.set_cons_zero, List.set_cons_succ]
      clear hHeld
      refine OrdL.wpL_ready (rs := [9]) (by kernel_rfl) (by simp) ?_
      refine OrdL.AllL.cons rfl (fun K hK => ?_) OrdL.AllL.nil
      go_simp
      obtain ⟨gn, hgn⟩ : ∃ gn, V5.heap.size = gn := ⟨_, rfl⟩
      rw [hgn]
      obtain ⟨V6, hV6⟩ : ∃ Vn, V5.alloc (.cells #[.int .u32 (i0 : Int), .int .u32 (i3 : Int), .int .i64 (z : Int), .int .u64 rq.seq, .int .i64 rq.kind, .slice K1 n1 k1, .slice K2 n2 k2, .int .u32 rq.seg, .int .u32 rq.off] 56) = Vn := ⟨_, rfl⟩
      rw [hV6]
      have hbn : Below V5.heap.size V5 V6 := by rw [← hV6]; exact (Below.refl _ _).alloc (Nat.le_refl _) _
      have hn0 : V6.heap[gn]? = some (.cells #[.int .u32 (i0 : Int), .int .u32 (i3 : Int), .int .i64 (z : Int), .int .u64 rq.seq, .int .i64 rq.kind, .slice K1 n1 k1, .slice K2 n2 k2, .int .u32 rq.seg, .int .u32 rq.off] 56 (0, 0)) := by rw [← hV6, ← hgn]; exact heap_alloc_new V5 _
      have hrd : Rd V6 (gn + 1) (some ⟨gn, 0, none⟩) [.int .u32 (i0 : Int), .int .u32 (i3 : Int), .int .i64 (z : Int), .int .u64 rq.seq, .int .i64 rq.kind, .slice K1 n1 k1, .slice K2 n2 k2, .int .u32 rq.seg, .int .u32 rq.off] := fun _ => ⟨gn, 0, rfl, by omega, fun j u hu => by rw [cell_of_row V6 gn (0 + j) _ _ _ hn0]; simpa using hu⟩
      have HVV6 := Lib.hid (HVV5.out.on hbn HLO.out.2)
      have HLCV6 := Lib.hid ((hbn.block gl (Array.getElem?_eq_some_iff.1 HLCV5.out).1).trans HLCV5.out)
      have HRD := Lib.hid hrd
      clear hrd hn0 hV6 hgn hbn HVV5 HLCV5
      refine hK.out _ _ (fun _ => s10 (rw5 (HVV6.out.tk.blk' HS.out.1 HS.out.2.1 HS.out.2.2)) (HVV6.out.rec6 HRC.out.1) (cell_of_row V6 gl 0 _ _ _ HLCV6.out) (cell_of_row V6 gl 1 _ _ _ HLCV6.out)) ?_
      clear hK K
      try simp only [Act.put, List.setIfInBounds_toArray, List.set_cons_zero, List.set_cons_succ]
      have hHeld := s10 (rw5 (HVV6.out.tk.blk' HS.out.1 HS.out.2.1 HS.out.2.2)) (HVV6.out.rec6 HRC.out.1) (cell_of_row V6 gl 0 _ _ _ HLCV6.out) (cell_of_row V6 gl 1 _ _ _ HLCV6.out)
      clear hHeld
      refine OrdL.wpL_ready (rs := [10]) (by kernel_rfl) (by simp) ?_
      refine OrdL.AllL.cons rfl (fun K hK => ?_) OrdL.AllL.nil
      obtain ⟨ii0, hi0, hzz0, hzz1, hzz2⟩ := info_parts found_infoL
      refine step_append_gr V6 (o := (⟨some 78, _, _, _, _, _⟩ : Oper)) rfl (.tmp 72) (.tmp 77) 41 rfl lo 56 ii0 (.agg #[.int .u32 0, .int .u32 0, .int .i64 0, .int .u64 0, .int .i64 0, .slice none 0 0, .slice none 0 0, .int .u32 0, .int .u32 0]) 9 88 Tryz.underlying41 hi0 hzz0 hzz1 hzz2 rfl (by omega) (.slice Af nf cf) nf (rowF i0 q) rfl (HVV6.out.own HS.out.1) (gn + 1) (some ⟨gn, 0, none⟩) 1 1 [.int .u32 (i0 : Int), .int .u32 (i3 : Int), .int .i64 (z : Int), .int .u64 rq.seq, .int .i64 rq.kind, .slice K1 n1 k1, .slice K2 n2 k2, .int .u32 rq.seg, .int .u32 rq.off] rfl rfl HRD.out (by simp [Value.oneCell']) (by unfold maxLen; omega) (by omega) (by have := HVV6.out.below.size; have := HLO.out.2; omega) ?_
      intro v7 V7 hown7 hb7 hg7 hv7
      dsimp only [Act.put, Array.getElem_toList, List.getElem_toArray, List.getElem_cons_succ, List.getElem_cons_zero]
      obtain ⟨A7, c7, rfl, _, _, _⟩ := own_slice hown7
      have HO7 := Lib.hid hown7
      have HC7 := Lib.hid (Chg.of_grown (M := fun g => (Value.slice Af nf cf).ownBlock = some g) hg7 (fun g h => h))
      have HT6 := Lib.hid (own_typed (HVV6.out.own HS.out.1))
      have HVV7 := Lib.hid (HVV6.out.va HT6.out (by decide) (by decide) (by decide) HC7.out hb7)
      have HPO := Lib.hid (HT6.out.own (by decide) HC7.out HVV6.out.tk.pown)
      clear hown7 hb7 hg7 hv7
      have hHeld := s10 (rw5 (HVV7.out.blk' HS.out.1 HS.out.2.1 HS.out.2.2)) (by have h6 := HVV7.out.rk; rw [HRC.out.1] at h6; exact ⟨cell_of_row V7 rb 0 _ _ _ h6, cell_of_row V7 rb 1 _ _ _ h6, cell_of_row V7 rb 2 _ _ _ h6, cell_of_row V7 rb 3 _ _ _ h6, cell_of_row V7 rb 4 _ _ _ h6, cell_of_row V7 rb 5 _ _ _ h6⟩) (cell_of_row V7 gl 0 _ _ _ (HT6.out.keep HC7.out HLCV6.out (by decide))) (cell_of_row V7 gl 1 _ _ _ (HT6.out.keep HC7.out HLCV6.out (by decide)))
      refine hK.out _ _ (fun _ => hHeld) ?_
      clear hK K HLCV6 HVV6 HRD HT6 HC7
      try simp only [Act.put, List.setIfInBounds_toArray, List.set_cons_zero, List.set_cons_succ]
      refine OrdL.wpL_take (i := 11) (v := ?_) opAt_11 [12] (by kernel_rfl) (by kernel_rfl) (by kernel_rfl) (by kernel_rfl) (by kernel_rfl) (by kernel_rfl) (fun _ _ _ h => h) (Or.inl ⟨by rfl, ?_⟩) hHeld ?_
      rotate_left
      · (intro w' hSw; obtain ⟨y0, y1, y2, y3, y4, r0, r1, r2, r3, r4, r5, l0, l1⟩ := hSw; go_simp; try with_reducible rfl)
      try simp only [Act.put, List.setIfInBounds_toArray, List.set_cons_zero, List.set_cons_succ]
      refine OrdL.wpL_take (i := 12) (v := ?_) opAt_12 [] (by kernel_rfl) (by kernel_rfl) (by kernel_rfl) (by kernel_rfl) (by kernel_rfl) (by kernel_rfl) (fun _ _ _ h => h) (Or.inl ⟨by rfl, ?_⟩) hHeld ?_
      rotate_left
      · (intro w' hSw; obtain ⟨y0, y1, y2, y3, y4, r0, r1, r2, r3, r4, r5, l0, l1⟩ := hSw; go_simp; try with_reducible rfl)
      try simp only [Act.put, List.setIfInBounds_toArray, List.set_cons_zero, List.set_cons_succ]
      clear hHeld
      refine OrdL.wpL_ready (rs := [13]) (by kernel_rfl) (by simp) ?_
      refine OrdL.AllL.cons rfl (fun K hK => ?_) OrdL.AllL.nil
      have y1 := (rw5 (HVV7.out.blk' HS.out.1 HS.out.2.1 HS.out.2.2)).2.1
      have g1 := (rw5f (HVV7.out.blk' HS.out.1 HS.out.2.1 HS.out.2.2)).2.1
      go_simp
      have h8 := Go.Joins.block_setCell (i := 1) (HVV7.out.blk' HS.out.1 HS.out.2.1 HS.out.2.2) (.slice A7 (nf + 1) c7)
      have h8 : _ = some (Obj.cells #[.int .u32 (i0 : Int), .slice A7 (nf + 1) c7, .slice Ap np cp, .int .i64 (i3 : Int), .int .i64 (i4 : Int)] 44 (0, 0)) := h8
      have HC8 := Lib.hid (chg1 V7 B 1 (.slice A7 (nf + 1) c7))
      generalize V7.setCell ⟨B, 1, none⟩ (.slice A7 (nf + 1) c7) = V8 at *
      have H8 := Lib.hid h8
      clear y1 g1 h8
      refine hK.out _ _ (fun h => absurd (show true = false from h) (by decide)) ?_
      clear hK K
      try simp only [Act.put, List.setIfInBounds_toArray, List.set_cons_zero, List.set_cons_succ]
      refine OrdL.wpL_done (by kernel_rfl) ?_ _
      refine NoPanic.normal ?_
      obtain ⟨y0, y1, y2, y3, y4⟩ := rw5 H8.out
      obtain ⟨g0, g1, g2, g3, g4⟩ := rw5f H8.out
      have hzl : z ≤ rest.length := by rcases HZR.out with h | h | h; exact h; omega; omega
      have hwz : IntKind.i64.wrap ((i3 : Int) + (z : Int)) = ((i3 + z : Nat) : Int) := by rw [IntWalk.i64_in _ (by omega)]; push_cast; rfl
      go_wp2_with fail
      have HT := Lib.hid (show tk s rest = { s with found := s.found ++ [⟨s.stop, z, rq⟩], stop := s.stop + z } by unfold tk; rw [HQ.out]; rw [if_neg (show ¬ (0 : Nat) = 22 by decide), if_neg (by rintro (h | ⟨_, h⟩); exact hz1 h; (have h2 : rq.seq ≤ ((lastF s.found : Nat) : Int) := h; rw [← HLS.out] at h2; omega)), if_pos rfl])
      go_end0
      refine ⟨⟨_, rfl⟩, ?_⟩
      rw [HT.out]
      have h9 := Go.Joins.block_setCell (i := 3) H8.out (.int .i64 ((i3 + z : Nat) : Int))
      have hkc : Fq.cells i0 kx = [.int .u32 (i0 : Int), .int .u32 (i3 : Int), .int .i64 (z : Int), .int .u64 rq.seq, .int .i64 rq.kind, .slice K1 n1 k1, .slice K2 n2 k2, .int .u32 rq.seg, .int .u32 rq.off] := by rw [HRC.out.2]; rfl
      exact HVV7.out.found HLO.out.1 HLO.out.2 HS.out HRC.out.2 (by rw [hkc]; exact HO7.out) HPO.out (HC8.out.setCell (p := ⟨B, 3, none⟩) rfl _) h9
  · rw [show ((22 : Nat) : Int) = 22 from rfl]
    go_wp2_with fail
    have HT := Lib.hid (show tk s rest = { s with why := 22 } by unfold tk; rw [HQ.out]; rw [if_pos rfl])
    refine bodyPost_ret (results_none rfl _ _ _) rfl ⟨⟨_, rfl⟩, ?_⟩
    rw [show tk s rest = { s with why := 22 } from HT.out]
    exact HVW3.out.why HLO.out.1 HLO.out.2 22
  · rw [show ((23 : Nat) : Int) = 23 from rfl]
    by_cases hz0 : z = 0
    · subst hz0
      rw [show ((0 : Nat) : Int) = 0 from rfl]
      go_wp2_with fail
      have HT := Lib.hid (show tk s rest = { s with why := 23 } by unfold tk; rw [HQ.out]; rw [if_neg (show ¬ (23 : Nat) = 22 by decide), if_pos (Or.inl rfl)])
      refine bodyPost_ret (results_none rfl _ _ _) rfl ⟨⟨_, rfl⟩, ?_⟩
      rw [show tk s rest = { s with why := 23 } from HT.out]
      exact HVW3.out.why HLO.out.1 HLO.out.2 23
    · have hz8 : ¬ (z : Int) = 0 := by omega
      have r0 := (HVW3.out.rec6 HRC.out.1).1
      go_wp2_with fail
      clear y0 y1 y2 y3 y4 g0 g1 g2 g3 g4 r0 hW4 hrb4
      refine wp_region_noPanic ?_
      refine wp_region_held_drew (S := fun w' => w'.cell? ⟨B, 0, none⟩ = some (.int .u32 (i0 : Int)) ∧ w'.cell? ⟨B, 1, none⟩ = some (.slice Af nf cf) ∧ w'.cell? ⟨B, 2, none⟩ = some (.slice Ap np cp) ∧ w'.cell? ⟨B, 3, none⟩ = some (.int .i64 (i3 : Int)) ∧ w'.cell? ⟨B, 4, none⟩ = some (.int .i64 (i4 : Int)) ∧ w'.cell? ⟨rb, 0, none⟩ = some (.int .u64 rq.seq)) (by kernel_rfl) (show _ from ⟨(rw5 (HVW3.out.tk.blk' HS.out.1 HS.out.2.1 HS.out.2.2)).1, (rw5 (HVW3.out.tk.blk' HS.out.1 HS.out.2.1 HS.out.2.2)).2.1, (rw5 (HVW3.out.tk.blk' HS.out.1 HS.out.2.1 HS.out.2.2)).2.2.1, (rw5 (HVW3.out.tk.blk' HS.out.1 HS.out.2.1 HS.out.2.2)).2.2.2.1, (rw5 (HVW3.out.tk.blk' HS.out.1 HS.out.2.1 HS.out.2.2)).2.2.2.2, (HVW3.out.rec6 HRC.out.1).1⟩) (fun hHeld => ?_)
      have HVV := Lib.hid (show VB w W3.drew lo B s q Af nf cf Ap np cp rb rc kx from HVW3.out.drew HLO.out.2)
      generalize World.drew W3 = V at *
      clear HVW3
      refine wpAnyH_take (i := 0) (v := ?_) opAt_0 (by kernel_rfl) (by kernel_rfl) (by kernel_rfl) (fun _ _ _ h => h) (Or.inl ⟨by rfl, ?_⟩) (by assumption) ?_
      rotate_left
      · (intro w hSw; obtain ⟨y0, y1, y2, y3, y4, r0⟩ := hSw; go_simp; try with_reducible rfl)
      try simp only [Act.put, List.setIfInBounds_toArray, List.set_cons_zero, List.set_cons_succ]
      refine wpAnyH_take (i := 1) (v := ?_) opAt_1 (by kernel_rfl) (by kernel_rfl) (by kernel_rfl) (fun _ _ _ h => h) (Or.inl ⟨by rfl, ?_⟩) (by assumption) ?_
      rotate_left
      · (intro w hSw; obtain ⟨y0, y1, y2, y3, y4, r0⟩ := hSw; go_simp; try with_reducible rfl)
      try simp only [Act.put, List.setIfInBounds_toArray, List.set_cons_zero, List.set_cons_succ]
      refine wpAnyH_take (i := 2) (v := ?_) opAt_2 (by kernel_rfl) (by kernel_rfl) (by kernel_rfl) (fun _ _ _ h => h) (Or.inl ⟨by rfl, ?_⟩) (by assumption) ?_
      rotate_left
      · (intro w hSw; obtain ⟨y0, y1, y2, y3, y4, r0⟩ := hSw; go_simp; try with_reducible rfl)
      try simp only [Act.put, List.setIfInBounds_toArray, List.set_cons_zero, List.set_cons_succ]
      refine wpAnyH_take (i := 3) (v := undef) opAt_3 (by kernel_rfl) (by kernel_rfl) (by kernel_rfl) (fun _ _ _ h => h) (Or.inr ⟨by rfl, rfl⟩) (by assumption) ?_
      try simp only [Act.put, List.setIfInBounds_toArray, List.set_cons_zero, List.set_cons_succ]
      refine wpAnyH_take (i := 4) (v := undef) opAt_4 (by kernel_rfl) (by kernel_rfl) (by kernel_rfl) (fun _ _ _ h => h) (Or.inr ⟨by rfl, rfl⟩) (by assumption) ?_
      try simp only [Act.put, List.setIfInBounds_toArray, List.set_cons_zero, List.set_cons_succ]
      refine wpAnyH_take (i := 5) (v := undef) opAt_5 (by kernel_rfl) (by kernel_rfl) (by kernel_rfl) (fun _ _ _ h => h) (Or.inr ⟨by rfl, rfl⟩) (by assumption) ?_
      try simp only [Act.put, List.setIfInBounds_toArray, List.set_cons_zero, List.set_cons_succ]
      refine wpAnyH_take (i := 6) (v := undef) opAt_6 (by kernel_rfl) (by kernel_rfl) (by kernel_rfl) (fun _ _ _ h => h) (Or.inr ⟨by rfl, rfl⟩) (by assumption) ?_
      try simp only [Act.put, List.setIfInBounds_toArray, List.set_cons_zero, List.set_cons_succ]
      refine wpAnyH_take (i := 7) (v := undef) opAt_7 (by kernel_rfl) (by kernel_rfl) (by kernel_rfl) (fun _ _ _ h => h) (Or.inr ⟨by rfl, rfl⟩) (by assumption) ?_
      try simp only [Act.put, List.setIfInBounds_toArray, List.set_cons_zero, List.set_cons_succ]
      refine wpAnyH_take (i := 8) (v := undef) opAt_8 (by kernel_rfl) (by kernel_rfl) (by kernel_rfl) (fun _ _ _ h => h) (Or.inr ⟨by rfl, rfl⟩) (by assumption) ?_
      try simp only [Act.put, List.setIfInBounds_toArray, List.set_cons_zero, List.set_cons_succ]
      refine wpAnyH_take (i := 9) (v := undef) opAt_9 (by kernel_rfl) (by kernel_rfl) (by kernel_rfl) (fun _ _ _ h => h) (Or.inr ⟨by rfl, rfl⟩) (by assumption) ?_
      try simp only [Act.put, List.setIfInBounds_toArray, List.set_cons_zero, List.set_cons_succ]
      refine wpAnyH_take (i := 10) (v := ?_) opAt_10 (by kernel_rfl) (by kernel_rfl) (by kernel_rfl) (fun _ _ _ h => h) (Or.inl ⟨by rfl, ?_⟩) (by assumption) ?_
      rotate_left
      · (intro w hSw; obtain ⟨y0, y1, y2, y3, y4, r0⟩ := hSw; go_simp; try with_reducible rfl)
      try simp only [Act.put, List.setIfInBounds_toArray, List.set_cons_zero, List.set_cons_succ]
      refine wpAnyH_take (i := 11) (v := ?_) opAt_11 (by kernel_rfl) (by kernel_rfl) (by kernel_rfl) (fun _ _ _ h => h) (Or.inl ⟨by rfl, ?_⟩) (by assumption) ?_
      rotate_left
      · (intro w hSw; obtain ⟨y0, y1, y2, y3, y4, r0⟩ := hSw; go_simp; try with_reducible rfl)
      try simp only [Act.put, List.setIfInBounds_toArray, List.set_cons_zero, List.set_cons_succ]
      refine wpAnyH_done (by kernel_rfl) ?_ _
      refine NoPanic.normal ?_
      clear hHeld
      obtain ⟨y0, y1, y2, y3, y4⟩ := rw5 (HVV.out.tk.blk' HS.out.1 HS.out.2.1 HS.out.2.2)
      obtain ⟨g0, g1, g2, g3, g4⟩ := rw5f (HVV.out.tk.blk' HS.out.1 HS.out.2.1 HS.out.2.2)
      go_wp2_with fail
      clear y0 y1 y2 y3 y4 g0 g1 g2 g3 g4
      refine wp_region_noPanic ?_
      refine OrdL.wpL_region (fun w' => w'.cell? ⟨B, 0, none⟩ = some (.int .u32 (i0 : Int)) ∧ w'.cell? ⟨B, 1, none⟩ = some (.slice Af nf cf) ∧ w'.cell? ⟨B, 2, none⟩ = some (.slice Ap np cp) ∧ w'.cell? ⟨B, 3, none⟩ = some (.int .i64 (i3 : Int)) ∧ w'.cell? ⟨B, 4, none⟩ = some (.int .i64 (i4 : Int))) 13 (by kernel_rfl) ?_
      have HVV5 := Lib.hid (show VB w V.drew lo B s q Af nf cf Ap np cp rb rc kx from HVV.out.drew HLO.out.2)
      generalize World.drew V = V5 at *
      clear HVV
      have hHeld := rw5 (HVV5.out.tk.blk' HS.out.1 HS.out.2.1 HS.out.2.2)
      refine OrdL.wpL_take (i := 0) (v := ?_) opAt_0 [12, 11] (by kernel_rfl) (by kernel_rfl) (by kernel_rfl) (by kernel_rfl) (by kernel_rfl) (by kernel_rfl) (fun _ _ _ h => h) (Or.inl ⟨by rfl, ?_⟩) hHeld ?_
      rotate_left
      · (intro w' hSw; obtain ⟨y0, y1, y2, y3, y4⟩ := hSw; go_simp; try with_reducible rfl)
      try simp only [Act.put, List.setIfInBounds_toArray, List.set_cons_zero, List.set_cons_succ]
      refine OrdL.wpL_take (i := 1) (v := ?_) opAt_1 [10, 4, 3, 2] (by kernel_rfl) (by kernel_rfl) (by kernel_rfl) (by kernel_rfl) (by kernel_rfl) (by kernel_rfl) (fun _ _ _ h => h) (Or.inl ⟨by rfl, ?_⟩) hHeld ?_
      rotate_left
      · (intro w' hSw; obtain ⟨y0, y1, y2, y3, y4⟩ := hSw; go_simp; try with_reducible rfl)
      try simp only [Act.put, List.setIfInBounds_toArray, List.set_cons_zero, List.set_cons_succ]
      refine OrdL.wpL_take (i := 2) (v := ?_) opAt_2 [10, 4, 3] (by kernel_rfl) (by kernel_rfl) (by kernel_rfl) (by kernel_rfl) (by kernel_rfl) (by kernel_rfl) (fun _ _ _ h => h) (Or.inl ⟨by rfl, ?_⟩) hHeld ?_
      rotate_left
      · (intro w' hSw; obtain ⟨y0, y1, y2, y3, y4⟩ := hSw; go_simp; try with_reducible rfl)
      try simp only [Act.put, List.setIfInBounds_toArray, List.set_cons_zero, List.set_cons_succ]
      refine OrdL.wpL_take (i := 3) (v := ?_) opAt_3 [10, 4] (by kernel_rfl) (by kernel_rfl) (by kernel_rfl) (by kernel_rfl) (by kernel_rfl) (by kernel_rfl) (fun _ _ _ h => h) (Or.inl ⟨by rfl, ?_⟩) hHeld ?_
      rotate_left
      · (intro w' hSw; obtain ⟨y0, y1, y2, y3, y4⟩ := hSw; go_simp; try with_reducible rfl)
      try simp only [Act.put, List.setIfInBounds_toArray, List.set_cons_zero, List.set_cons_succ]
      refine OrdL.wpL_take (i := 4) (v := ?_) opAt_4 [10] (by kernel_rfl) (by kernel_rfl) (by kernel_rfl) (by kernel_rfl) (by kernel_rfl) (by kernel_rfl) (fun _ _ _ h => h) (Or.inl ⟨by rfl, ?_⟩) hHeld ?_
      rotate_left
      · (intro w' hSw; obtain ⟨y0, y1, y2, y3, y4⟩ := hSw; go_simp; try with_reducible rfl)
      try simp only [Act.put, List.setIfInBounds_toArray, List.set_cons_zero, List.set_cons_succ]
      refine OrdL.wpL_take (i := 5) (v := ?_) opAt_5 [10, 9, 8, 7, 6] (by kernel_rfl) (by kernel_rfl) (by kernel_rfl) (by kernel_rfl) (by kernel_rfl) (by kernel_rfl) (fun _ _ _ h => h) (Or.inl ⟨by rfl, ?_⟩) hHeld ?_
      rotate_left
      · (intro w' hSw; obtain ⟨y0, y1, y2, y3, y4⟩ := hSw; go_simp; try with_reducible rfl)
      try simp only [Act.put, List.setIfInBounds_toArray, List.set_cons_zero, List.set_cons_succ]
      refine OrdL.wpL_take (i := 6) (v := ?_) opAt_6 [10, 9, 8, 7] (by kernel_rfl) (by kernel_rfl) (by kernel_rfl) (by kernel_rfl) (by kernel_rfl) (by kernel_rfl) (fun _ _ _ h => h) (Or.inl ⟨by rfl, ?_⟩) hHeld ?_
      rotate_left
      · (intro w' hSw; obtain ⟨y0, y1, y2, y3, y4⟩ := hSw; go_simp; try with_reducible rfl)
      try simp only [Act.put, List.setIfInBounds_toArray, List.set_cons_zero, List.set_cons_succ]
      refine OrdL.wpL_take (i := 7) (v := ?_) opAt_7 [10, 9, 8] (by kernel_rfl) (by kernel_rfl) (by kernel_rfl) (by kernel_rfl) (by kernel_rfl) (by kernel_rfl) (fun _ _ _ h => h) (Or.inl ⟨by rfl, ?_⟩) hHeld ?_
      rotate_left
      · (intro w' hSw; obtain ⟨y0, y1, y2, y3, y4⟩ := hSw; go_simp; try with_reducible rfl)
      try simp only [Act.put, List.setIfInBounds_toArray, List.set_cons_zero, List.set_cons_succ]
      refine OrdL.wpL_take (i := 8) (v := ?_) opAt_8 [10, 9] (by kernel_rfl) (by kernel_rfl) (by kernel_rfl) (by kernel_rfl) (by kernel_rfl) (by kernel_rfl) (fun _ _ _ h => h) (Or.inl ⟨by rfl, ?_⟩) hHeld ?_
      rotate_left
      · (intro w' hSw; obtain ⟨y0, y1, y2, y3, y4⟩ := hSw; go_simp; try with_reducible rfl)
      try simp only [Act.put, List.setIfInBounds_toArray, List.set_cons_zero, List.set_cons_succ]
      clear hHeld
      refine OrdL.wpL_ready (rs := [9]) (by kernel_rfl) (by simp) ?_
      refine OrdL.AllL.cons rfl (fun K hK => ?_) OrdL.AllL.nil
      go_simp
      obtain ⟨gn, hgn⟩ : ∃ gn, V5.heap.size = gn := ⟨_, rfl⟩
      rw [hgn]
      obtain ⟨V6, hV6⟩ : ∃ Vn, V5.alloc (.cells #[.int .i64 (i3 : Int)] 3) = Vn := ⟨_, rfl⟩
      rw [hV6]
      have hbn : Below V5.heap.size V5 V6 := by rw [← hV6]; exact (Below.refl _ _).alloc (Nat.le_refl _) _
      have hn0 : V6.heap[gn]? = some (.cells #[.int .i64 (i3 : Int)] 3 (0, 0)) := by rw [← hV6, ← hgn]; exact heap_alloc_new V5 _
      have hrd : Rd V6 (gn + 1) (some ⟨gn, 0, none⟩) [.int .i64 (i3 : Int)] := fun _ => ⟨gn, 0, rfl, by omega, fun j u hu => by rw [cell_of_row V6 gn (0 + j) _ _ _ hn0]; simpa using hu⟩
      have HVV6 := Lib.hid (HVV5.out.on hbn HLO.out.2)
      have HRD := Lib.hid hrd
      clear hrd hn0 hV6 hgn hbn HVV5
      refine hK.out _ _ (fun _ => rw5 (HVV6.out.tk.blk' HS.out.1 HS.out.2.1 HS.out.2.2)) ?_
      clear hK K
      try simp only [Act.put, List.setIfInBounds_toArray, List.set_cons_zero, List.set_cons_succ]
      have hHeld := rw5 (HVV6.out.tk.blk' HS.out.1 HS.out.2.1 HS.out.2.2)
      clear hHeld
      refine OrdL.wpL_ready (rs := [10]) (by kernel_rfl) (by simp) ?_
      refine OrdL.AllL.cons rfl (fun K hK => ?_) OrdL.AllL.nil
      obtain ⟨ii0, hi0, hzz0, hzz1, hzz2⟩ := info_parts int_infoL
      refine step_append_gr V6 (o := (⟨some 24, _, _, _, _, _⟩ : Oper)) rfl (.tmp 18) (.tmp 23) 42 rfl lo 3 ii0 (.int .i64 0) 1 8 Tryz.underlying42 hi0 hzz0 hzz1 hzz2 rfl (by omega) (.slice Ap np cp) np (s.passed.map fun n : Nat => Value.int .i64 (n : Int)) rfl HVV6.out.tk.pown (gn + 1) (some ⟨gn, 0, none⟩) 1 1 [.int .i64 (i3 : Int)] rfl rfl HRD.out (by simp [Value.oneCell']) (by unfold maxLen; omega) (by omega) (by have := HVV6.out.below.size; have := HLO.out.2; omega) ?_
      intro v7 V7 hown7 hb7 hg7 hv7
      dsimp only [Act.put, Array.getElem_toList, List.getElem_toArray, List.getElem_cons_succ, List.getElem_cons_zero]
      obtain ⟨A7, c7, rfl, _, _, _⟩ := own_slice hown7
      have HO7 := Lib.hid hown7
      have HC7 := Lib.hid (Chg.of_grown (M := fun g => (Value.slice Ap np cp).ownBlock = some g) hg7 (fun g h => h))
      have HT6 := Lib.hid (own_typed HVV6.out.tk.pown)
      have HVV7 := Lib.hid (HVV6.out.va HT6.out (by decide) (by decide) (by decide) HC7.out hb7)
      have HFO := Lib.hid (HT6.out.own (by decide) HC7.out HVV6.out.tk.own)
      clear hown7 hb7 hg7 hv7
      have hHeld := rw5 (HVV7.out.blk' HS.out.1 HS.out.2.1 HS.out.2.2)
      refine hK.out _ _ (fun _ => hHeld) ?_
      clear hK K HVV6 HRD HT6 HC7
      try simp only [Act.put, List.setIfInBounds_toArray, List.set_cons_zero, List.set_cons_succ]
      refine OrdL.wpL_take (i := 11) (v := ?_) opAt_11 [12] (by kernel_rfl) (by kernel_rfl) (by kernel_rfl) (by kernel_rfl) (by kernel_rfl) (by kernel_rfl) (fun _ _ _ h => h) (Or.inl ⟨by rfl, ?_⟩) hHeld ?_
      rotate_left
      · (intro w' hSw; obtain ⟨y0, y1, y2, y3, y4⟩ := hSw; go_simp; try with_reducible rfl)
      try simp only [Act.put, List.setIfInBounds_toArray, List.set_cons_zero, List.set_cons_succ]
      refine OrdL.wpL_take (i := 12) (v := ?_) opAt_12 [] (by kernel_rfl) (by kernel_rfl) (by kernel_rfl) (by kernel_rfl) (by kernel_rfl) (by kernel_rfl) (fun _ _ _ h => h) (Or.inl ⟨by rfl, ?_⟩) hHeld ?_
      rotate_left
      · (intro w' hSw; obtain ⟨y0, y1, y2, y3, y4⟩ := hSw; go_simp; try with_reducible rfl)
      try simp only [Act.put, List.setIfInBounds_toArray, List.set_cons_zero, List.set_cons_succ]
      clear hHeld
      refine OrdL.wpL_ready (rs := [13]) (by kernel_rfl) (by simp) ?_
      refine OrdL.AllL.cons rfl (fun K hK => ?_) OrdL.AllL.nil
      have y2 := (rw5 (HVV7.out.blk' HS.out.1 HS.out.2.1 HS.out.2.2)).2.2.1
      have g2 := (rw5f (HVV7.out.blk' HS.out.1 HS.out.2.1 HS.out.2.2)).2.2.1
      go_simp
      have h8 := Go.Joins.block_setCell (i := 2) (HVV7.out.blk' HS.out.1 HS.out.2.1 HS.out.2.2) (.slice A7 (np + 1) c7)
      have h8 : _ = some (Obj.cells #[.int .u32 (i0 : Int), .slice Af nf cf, .slice A7 (np + 1) c7, .int .i64 (i3 : Int), .int .i64 (i4 : Int)] 44 (0, 0)) := h8
      have HC8 := Lib.hid (chg1 V7 B 2 (.slice A7 (np + 1) c7))
      generalize V7.setCell ⟨B, 2, none⟩ (.slice A7 (np + 1) c7) = V8 at *
      have H8 := Lib.hid h8
      clear y2 g2 h8
      refine hK.out _ _ (fun h => absurd (show true = false from h) (by decide)) ?_
      clear hK K
      try simp only [Act.put, List.setIfInBounds_toArray, List.set_cons_zero, List.set_cons_succ]
      refine OrdL.wpL_done (by kernel_rfl) ?_ _
      refine NoPanic.normal ?_
      obtain ⟨y0, y1, y2, y3, y4⟩ := rw5 H8.out
      obtain ⟨g0, g1, g2, g3, g4⟩ := rw5f H8.out
      have hzl : z ≤ rest.length := by rcases HZR.out with h | h | h; exact h; omega; omega
      have hwz : IntKind.i64.wrap ((i3 : Int) + (z : Int)) = ((i3 + z : Nat) : Int) := by rw [IntWalk.i64_in _ (by omega)]; push_cast; rfl
      go_wp2_with fail
      have HT := Lib.hid (show tk s rest = { s with passed := s.passed ++ [s.stop], stop := s.stop + z } by unfold tk; rw [HQ.out]; rw [if_neg (show ¬ (23 : Nat) = 22 by decide), if_neg (by rintro (h | ⟨h, _⟩); exact hz0 h; exact absurd (show (23 : Nat) = 0 from h) (by decide)), if_neg (show ¬ (23 : Nat) = 0 by decide)])
      go_end0
      refine ⟨⟨_, rfl⟩, ?_⟩
      rw [HT.out]
      have h9 := Go.Joins.block_setCell (i := 3) H8.out (.int .i64 ((i3 + z : Nat) : Int))
      exact HVV7.out.passed HLO.out.1 HLO.out.2 HS.out HFO.out HO7.out (HC8.out.setCell (p := ⟨B, 3, none⟩) rfl _) h9
end Go.Proofs.YtaicibmaogiibaaGreatDoor.Sc

/- ScSeal -/

/-
  Layer 12: the landed scan's Seal.
-/
set_option linter.unusedVariables false
set_option linter.unusedSimpArgs false
namespace Go.Proofs.YtaicibmaogiibaaGreatDoor.Sc
open Go Go.RowKit

/-- five cells stored one behind the other -/
def set5 (w : World) (g : Nat) (a0 a1 a2 a3 a4 : Value) : World := ((((w.setCell ⟨g, 0, none⟩ a0).setCell ⟨g, 1, none⟩ a1).setCell ⟨g, 2, none⟩ a2).setCell ⟨g, 3, none⟩ a3).setCell ⟨g, 4, none⟩ a4
theorem set5_at {w : World} {g : Nat} {x0 x1 x2 x3 x4 : Value} {T : TypeId} (h : w.heap[g]? = some (.cells #[x0, x1, x2, x3, x4] T (0, 0))) (a0 a1 a2 a3 a4 : Value) : (set5 w g a0 a1 a2 a3 a4).heap[g]? = some (.cells #[a0, a1, a2, a3, a4] T (0, 0)) :=
  Go.Joins.block_setCell (i := 4) (Go.Joins.block_setCell (i := 3) (Go.Joins.block_setCell (i := 2) (Go.Joins.block_setCell (i := 1) (Go.Joins.block_setCell (i := 0) h a0) a1) a2) a3) a4
theorem set5_chg (w : World) (g : Nat) (a0 a1 a2 a3 a4 : Value) : Chg (fun i => i = g) w (set5 w g a0 a1 a2 a3 a4) :=
  ((((chg1 w g 0 a0).setCell (p := ⟨g, 1, none⟩) rfl a1).setCell (p := ⟨g, 2, none⟩) rfl a2).setCell (p := ⟨g, 3, none⟩) rfl a3).setCell (p := ⟨g, 4, none⟩) rfl a4
set_option maxRecDepth 100000 in
set_option maxHeartbeats 16000000 in
theorem sseal12 {w : World} {lo : Nat} {v : Value} {s : S} (h : ScanV 56 w lo v s) (hid : s.id < 4294967296) (hst : s.stop < 4294967296) (hm : s.found.length + s.passed.length ≤ 1000000) (hpos : ∀ f ∈ s.found, 0 ≤ f.r.seq) :
    Calls Tryz.prog 14 #[v] w fun e w' => e = .returned (seal_ s).val ∧ Below w.heap.size w w' := by
  have HL := Lib.hid (fun (V : World) (hb : Below w.heap.size w V) => slast (h.on hb) (by omega) hpos)
  obtain ⟨Af, n, cf, Ap, np, cp, q, rfl, h1, hq, hp, hfl, e1, e2, e3, e4, h2, h3, h4⟩ := h.open
  obtain ⟨bx, hbx⟩ : ∃ bx, w.heap.size = bx := ⟨_, rfl⟩
  obtain ⟨m, hmm⟩ : ∃ m, m = n + np := ⟨_, rfl⟩
  obtain ⟨W1, hW1⟩ : ∃ W1, w.alloc (.cells #[.int .u32 (s.id : Int), .slice Af n cf, .slice Ap np cp, .int .i64 (s.stop : Int), .int .i64 (s.why : Int)] 44) = W1 := ⟨_, rfl⟩
  obtain ⟨W, hW⟩ : ∃ W, W1.alloc (.cells #[.int .u32 0, .int .u32 0, .int .u32 0, .int .u64 0, .int .u64 0] 39) = W := ⟨_, rfl⟩
  have hs1 : W1.heap.size = bx + 1 := by rw [← hW1, ← hbx]; simp
  have hb1 : Below w.heap.size w W1 := by rw [← hW1]; exact (Below.refl _ _).alloc (Nat.le_refl _) _
  have hb2 : Below W1.heap.size W1 W := by rw [← hW]; exact (Below.refl _ _).alloc (Nat.le_refl _) _
  have k1 : W1.heap[bx]? = some (.cells #[.int .u32 (s.id : Int), .slice Af n cf, .slice Ap np cp, .int .i64 (s.stop : Int), .int .i64 (s.why : Int)] 44 (0, 0)) := by rw [← hW1, ← hbx]; exact heap_alloc_new w _
  have k2 : W.heap[bx + 1]? = some (.cells #[.int .u32 0, .int .u32 0, .int .u32 0, .int .u64 0, .int .u64 0] 39 (0, 0)) := by rw [← hW, ← hs1]; exact heap_alloc_new W1 _
  have HKW := Lib.hid ((hb2.block bx (by omega)).trans k1)
  have HRW := Lib.hid k2
  have HBW := Lib.hid (hb1.trans (hb2.mono hb1.size))
  have HX := Lib.hid hbx
  obtain ⟨fs, hfs⟩ : ∃ fs, fs = firstOf s.found := ⟨_, rfl⟩
  obtain ⟨ls, hls⟩ : ∃ ls, ls = lastF s.found := ⟨_, rfl⟩
  have HF0 := Lib.hid (show n = 0 → fs = 0 from fun hn => by rw [hfs, List.length_eq_zero_iff.1 (hfl.trans hn)]; rfl)
  have HQ := Lib.hid (show ¬ n = 0 → ∀ X : World, Below w.heap.size w X → ∀ (gz : Nat) (arr : Array Value), X.heap[gz]? = some (.cells arr 39 (0, 0)) → ∃ g, Af = some ⟨g, 0, none⟩ ∧ X.cell? ⟨g, 3, none⟩ = some (.int .u64 (fs : Int)) ∧ ¬ g = gz from fun hn X hX gz arr hz => by
    obtain ⟨g, rfl, hg⟩ := own_at h2 (by omega)
    obtain ⟨x, hx⟩ : ∃ x, q[0]? = some x := ⟨_, List.getElem?_eq_getElem (by omega)⟩
    have hO := own_below h2 hX (Nat.le_refl _)
    have hc : X.cell? ⟨g, 0 * 9 + 3, none⟩ = some (.int .u64 x.1.r.seq) := found_cell hO hx 3 (by omega)
    have hf : s.found[0]? = some x.1 := by rw [← h1, List.getElem?_map, hx]; rfl
    have hsq := hpos x.1 (List.mem_of_getElem? hf)
    have e0 : firstOf s.found = x.1.r.seq.toNat := by
      rcases hh : s.found with _ | ⟨y, l⟩
      · rw [hh] at hf; simp at hf
      · rw [hh] at hf
        simp at hf
        rw [hf]
        rfl
    refine ⟨g, rfl, ?_, fun e => ?_⟩
    · rw [hfs, e0, Int.toNat_of_nonneg hsq]
      rw [Nat.zero_mul, Nat.zero_add] at hc
      exact hc
    · obtain ⟨arr2, z2, e2⟩ := own_typed hO g rfl
      rw [e, hz] at e2
      injection e2 with e2
      injection e2 with _ e2 _
      revert e2
      decide)
  rw [hfl, hp] at hm
  have hv : (seal_ s).val = Sl.val ⟨s.id, s.stop, m, fs, ls⟩ := by
    unfold seal_
    rw [hfl, hp, hmm, hfs, hls]
  rw [hv]
  rw [← hls] at HL
  have hws : IntKind.u32.wrap (s.stop : Int) = (s.stop : Int) := IntWalk.u32_in _ (by omega)
  have hnm : (n : Int) + (np : Int) = (m : Int) := by omega
  have hwm : IntKind.u32.wrap (m : Int) = (m : Int) := IntWalk.u32_in _ (by omega)
  have hm2 : m ≤ 1000000 := by omega
  have hw64 : IntKind.i64.wrap (m : Int) = (m : Int) := IntWalk.i64_in _ (by omega)
  have hn2 : n ≤ 1000000 := by omega
  have hnp2 : np ≤ 1000000 := by omega
  clear h h1 hq hp hfl h2 h3 h4 hpos hb1 hb2 k1 k2 hfs hls hv hmm hm
  generalize s.id = i0 at *
  generalize s.stop = i3 at *
  generalize s.why = i4 at *
  go_enter Tryz.func14, Tryz.ntmps14
  go_wp2_with fail
  refine wp_region_noPanic ?_
  refine wp_region_held_drew (S := fun w' => w'.cell? ⟨bx, 0, none⟩ = some (.int .u32 (i0 : Int)) ∧ w'.cell? ⟨bx, 1, none⟩ = some (.slice Af n cf) ∧ w'.cell? ⟨bx, 2, none⟩ = some (.slice Ap np cp) ∧ w'.cell? ⟨bx, 3, none⟩ = some (.int .i64 (i3 : Int)) ∧ w'.cell? ⟨bx, 4, none⟩ = some (.int .i64 (i4 : Int))) (by kernel_rfl) (show _ from rw5 (show W.drew.heap[bx]? = _ from HKW.out)) (fun hHeld => ?_)
  have HKV := Lib.hid (show W.drew.heap[bx]? = _ from HKW.out)
  have HRV := Lib.hid (show W.drew.heap[bx + 1]? = _ from HRW.out)
  have HBV := Lib.hid (show Below w.heap.size w W.drew from HBW.out.drew)
  generalize World.drew W = V at *
  clear HKW HRW HBW
  refine wpAnyH_take (i := 0) (v := ?_) opAt_0 (by kernel_rfl) (by kernel_rfl) (by kernel_rfl) (fun _ _ _ h => h) (Or.inl ⟨by rfl, ?_⟩) (by assumption) ?_
  rotate_left
  · (intro w hSw; obtain ⟨y0, y1, y2, y3, y4⟩ := hSw; go_simp; try with_reducible rfl)
  try simp only [Act.put, List.setIfInBounds_toArray, List.set_cons_zero, List.set_cons_succ]
  refine wpAnyH_take (i := 1) (v := ?_) opAt_1 (by kernel_rfl) (by kernel_rfl) (by kernel_rfl) (fun _ _ _ h => h) (Or.inl ⟨by rfl, ?_⟩) (by assumption) ?_
  rotate_left
  · (intro w hSw; obtain ⟨y0, y1, y2, y3, y4⟩ := hSw; go_simp; try with_reducible rfl)
  try simp only [Act.put, List.setIfInBounds_toArray, List.set_cons_zero, List.set_cons_succ]
  refine wpAnyH_take (i := 2) (v := ?_) opAt_2 (by kernel_rfl) (by kernel_rfl) (by kernel_rfl) (fun _ _ _ h => h) (Or.inl ⟨by rfl, ?_⟩) (by assumption) ?_
  rotate_left
  · (intro w hSw; obtain ⟨y0, y1, y2, y3, y4⟩ := hSw; go_simp; try with_reducible rfl)
  try simp only [Act.put, List.setIfInBounds_toArray, List.set_cons_zero, List.set_cons_succ]
  refine wpAnyH_take (i := 3) (v := ?_) opAt_3 (by kernel_rfl) (by kernel_rfl) (by kernel_rfl) (fun _ _ _ h => h) (Or.inl ⟨by rfl, ?_⟩) (by assumption) ?_
  rotate_left
  · (intro w hSw; obtain ⟨y0, y1, y2, y3, y4⟩ := hSw; go_simp; try with_reducible rfl)
  try simp only [Act.put, List.setIfInBounds_toArray, List.set_cons_zero, List.set_cons_succ]
  refine wpAnyH_take (i := 4) (v := ?_) opAt_4 (by kernel_rfl) (by kernel_rfl) (by kernel_rfl) (fun _ _ _ h => h) (Or.inl ⟨by rfl, ?_⟩) (by assumption) ?_
  rotate_left
  · (intro w hSw; obtain ⟨y0, y1, y2, y3, y4⟩ := hSw; go_simp; try with_reducible rfl)
  try simp only [Act.put, List.setIfInBounds_toArray, List.set_cons_zero, List.set_cons_succ]
  refine wpAnyH_take (i := 5) (v := ?_) opAt_5 (by kernel_rfl) (by kernel_rfl) (by kernel_rfl) (fun _ _ _ h => h) (Or.inl ⟨by rfl, ?_⟩) (by assumption) ?_
  rotate_left
  · (intro w hSw; obtain ⟨y0, y1, y2, y3, y4⟩ := hSw; go_simp; try with_reducible rfl)
  try simp only [Act.put, List.setIfInBounds_toArray, List.set_cons_zero, List.set_cons_succ]
  refine wpAnyH_take (i := 6) (v := ?_) opAt_6 (by kernel_rfl) (by kernel_rfl) (by kernel_rfl) (fun _ _ _ h => h) (Or.inl ⟨by rfl, ?_⟩) (by assumption) ?_
  rotate_left
  · (intro w hSw; obtain ⟨y0, y1, y2, y3, y4⟩ := hSw; go_simp; try with_reducible rfl)
  try simp only [Act.put, List.setIfInBounds_toArray, List.set_cons_zero, List.set_cons_succ]
  refine wpAnyH_take (i := 7) (v := ?_) opAt_7 (by kernel_rfl) (by kernel_rfl) (by kernel_rfl) (fun _ _ _ h => h) (Or.inl ⟨by rfl, ?_⟩) (by assumption) ?_
  rotate_left
  · (intro w hSw; obtain ⟨y0, y1, y2, y3, y4⟩ := hSw; go_simp; try with_reducible rfl)
  try simp only [Act.put, List.setIfInBounds_toArray, List.set_cons_zero, List.set_cons_succ]
  refine wpAnyH_take (i := 8) (v := ?_) opAt_8 (by kernel_rfl) (by kernel_rfl) (by kernel_rfl) (fun _ _ _ h => h) (Or.inl ⟨by rfl, ?_⟩) (by assumption) ?_
  rotate_left
  · (intro w hSw; obtain ⟨y0, y1, y2, y3, y4⟩ := hSw; go_simp; try with_reducible rfl)
  try simp only [Act.put, List.setIfInBounds_toArray, List.set_cons_zero, List.set_cons_succ]
  refine wpAnyH_take (i := 9) (v := ?_) opAt_9 (by kernel_rfl) (by kernel_rfl) (by kernel_rfl) (fun _ _ _ h => h) (Or.inl ⟨by rfl, ?_⟩) (by assumption) ?_
  rotate_left
  · (intro w hSw; obtain ⟨y0, y1, y2, y3, y4⟩ := hSw; go_simp; try with_reducible rfl)
  try simp only [Act.put, List.setIfInBounds_toArray, List.set_cons_zero, List.set_cons_succ]
  refine wpAnyH_take (i := 10) (v := ?_) opAt_10 (by kernel_rfl) (by kernel_rfl) (by kernel_rfl) (fun _ _ _ h => h) (Or.inl ⟨by rfl, ?_⟩) (by assumption) ?_
  rotate_left
  · (intro w hSw; obtain ⟨y0, y1, y2, y3, y4⟩ := hSw; go_simp; try with_reducible rfl)
  try simp only [Act.put, List.setIfInBounds_toArray, List.set_cons_zero, List.set_cons_succ]
  refine wpAnyH_take (i := 11) (v := ?_) opAt_11 (by kernel_rfl) (by kernel_rfl) (by kernel_rfl) (fun _ _ _ h => h) (Or.inl ⟨by rfl, ?_⟩) (by assumption) ?_
  rotate_left
  · (intro w hSw; obtain ⟨y0, y1, y2, y3, y4⟩ := hSw; go_simp; try with_reducible rfl)
  try simp only [Act.put, List.setIfInBounds_toArray, List.set_cons_zero, List.set_cons_succ]
  refine wpAnyH_take (i := 12) (v := ?_) opAt_12 (by kernel_rfl) (by kernel_rfl) (by kernel_rfl) (fun _ _ _ h => h) (Or.inl ⟨by rfl, ?_⟩) (by assumption) ?_
  rotate_left
  · (intro w hSw; obtain ⟨y0, y1, y2, y3, y4⟩ := hSw; go_simp; try with_reducible rfl)
  try simp only [Act.put, List.setIfInBounds_toArray, List.set_cons_zero, List.set_cons_succ]
  refine wpAnyH_take (i := 13) (v := ?_) opAt_13 (by kernel_rfl) (by kernel_rfl) (by kernel_rfl) (fun _ _ _ h => h) (Or.inl ⟨by rfl, ?_⟩) (by assumption) ?_
  rotate_left
  · (intro w hSw; obtain ⟨y0, y1, y2, y3, y4⟩ := hSw; go_simp; try with_reducible rfl)
  try simp only [Act.put, List.setIfInBounds_toArray, List.set_cons_zero, List.set_cons_succ]
  refine wpAnyH_ready (rs := [14, 16]) (by kernel_rfl) (by simp) ?_
  refine AllReadyH.cons rfl (fun K hK => ?_) (AllReadyH.cons rfl (fun K hK => ?_) AllReadyH.nil)
  · go_simp
    refine (HL.out V HBV.out).mono ?_
    rintro e V1 ⟨rfl, hbn⟩
    have HKV1 := Lib.hid ((hbn.block bx (Array.getElem?_eq_some_iff.1 HKV.out).1).trans HKV.out)
    have HRV1 := Lib.hid ((hbn.block (bx + 1) (Array.getElem?_eq_some_iff.1 HRV.out).1).trans HRV.out)
    have HBV1 := Lib.hid (HBV.out.trans (hbn.mono HBV.out.size))
    go_wp2_with fail
    refine hK.out _ _ (rw5 HKV1.out) (fun hHeld => ?_)
    clear hK K
    try simp only [Act.put, List.setIfInBounds_toArray, List.set_cons_zero, List.set_cons_succ]
    refine wpAnyH_take (i := 15) (v := ?_) opAt_15 (by kernel_rfl) (by kernel_rfl) (by kernel_rfl) (fun _ _ _ h => h) (Or.inl ⟨by rfl, ?_⟩) (by assumption) ?_
    rotate_left
    · (intro w hSw; obtain ⟨y0, y1, y2, y3, y4⟩ := hSw; go_simp; try with_reducible rfl)
    try simp only [Act.put, List.setIfInBounds_toArray, List.set_cons_zero, List.set_cons_succ]
    refine wpAnyH_ready (rs := [16]) (by kernel_rfl) (by simp) ?_
    refine AllReadyH.cons rfl (fun K hK => ?_) AllReadyH.nil
    go_simp
    obtain ⟨gz, hgz⟩ : ∃ gz, V1.heap.size = gz := ⟨_, rfl⟩
    rw [hgz]
    obtain ⟨V2, hV2⟩ : ∃ Vn, V1.alloc (.cells #[.int .u32 0, .int .u32 0, .int .u32 0, .int .u64 0, .int .u64 0] 39) = Vn := ⟨_, rfl⟩
    rw [hV2]
    have hbn : Below V1.heap.size V1 V2 := by rw [← hV2]; exact (Below.refl _ _).alloc (Nat.le_refl _) _
    have hz0 : V2.heap[gz]? = some (.cells #[.int .u32 0, .int .u32 0, .int .u32 0, .int .u64 0, .int .u64 0] 39 (0, 0)) := by rw [← hV2, ← hgz]; exact heap_alloc_new V1 _
    have HKV2 := Lib.hid ((hbn.block bx (Array.getElem?_eq_some_iff.1 HKV1.out).1).trans HKV1.out)
    have HRV2 := Lib.hid ((hbn.block (bx + 1) (Array.getElem?_eq_some_iff.1 HRV1.out).1).trans HRV1.out)
    have HBV2 := Lib.hid (HBV1.out.trans (hbn.mono HBV1.out.size))
    have HG := Lib.hid (show w.heap.size + 1 < gz by have := HBV1.out.size; have := (Array.getElem?_eq_some_iff.1 HRV1.out).1; have := HX.out; omega)
    clear hV2 hgz
    refine hK.out _ _ (rw5 HKV2.out) (fun hHeld => ?_)
    clear hK K
    try simp only [Act.put, List.setIfInBounds_toArray, List.set_cons_zero, List.set_cons_succ]
    have HZ := Lib.hid hz0
    clear hz0
    obtain ⟨z0, z1, z2, z3, z4⟩ := rw5 HZ.out
    obtain ⟨f0, f1, f2, f3, f4⟩ := rw5f HZ.out
    refine wpAnyH_ready (rs := [17]) (by kernel_rfl) (by simp) ?_
    refine AllReadyH.cons rfl (fun K hK => ?_) AllReadyH.nil
    go_simp
    have HZ2 := Lib.hid (set5_at HZ.out (.int .u32 (i0 : Int)) (.int .u32 (i3 : Int)) (.int .u32 (m : Int)) (.int .u64 0) (.int .u64 (ls : Int)))
    have HC2 := Lib.hid (set5_chg V2 gz (.int .u32 (i0 : Int)) (.int .u32 (i3 : Int)) (.int .u32 (m : Int)) (.int .u64 0) (.int .u64 (ls : Int)))
    change K _ (set5 V2 gz _ _ _ _ _)
    generalize set5 V2 gz (.int .u32 (i0 : Int)) (.int .u32 (i3 : Int)) (.int .u32 (m : Int)) (.int .u64 0) (.int .u64 (ls : Int)) = X at *
    clear z0 z1 z2 z3 z4 f0 f1 f2 f3 f4
    have HKX := Lib.hid ((HC2.out.block bx (Array.getElem?_eq_some_iff.1 HKV2.out).1 (by have := HG.out; have := HX.out; omega)).trans HKV2.out)
    have HRX := Lib.hid ((HC2.out.block (bx + 1) (Array.getElem?_eq_some_iff.1 HRV2.out).1 (by have := HG.out; have := HX.out; omega)).trans HRV2.out)
    have HBX := Lib.hid (HBV2.out.trans (HC2.out.below HBV2.out.size (fun i e => by have := HG.out; omega)))
    refine hK.out _ _ (rw5 HKX.out) (fun hHeld => ?_)
    clear hK K
    try simp only [Act.put, List.setIfInBounds_toArray, List.set_cons_zero, List.set_cons_succ]
    clear HC2 HZ hHeld
    refine wpAnyH_done (by kernel_rfl) ?_ _
    refine NoPanic.normal ?_
    obtain ⟨y0, y1, y2, y3, y4⟩ := rw5 HKX.out
    by_cases hn : n = 0
    · have j0 : ¬ 0 < (n : Int) := by omega
      obtain ⟨z0, z1, z2, z3, z4⟩ := rw5 HZ2.out
      obtain ⟨x0, x1, x2, x3, x4⟩ := rw5 HRX.out
      obtain ⟨d0, d1, d2, d3, d4⟩ := rw5f HRX.out
      have hfs := HF0.out hn
      go_wp2_with fail
      have h9 := set5_at HRX.out (.int .u32 (i0 : Int)) (.int .u32 (i3 : Int)) (.int .u32 (m : Int)) (.int .u64 0) (.int .u64 (ls : Int))
      obtain ⟨r0, r1, r2, r3, r4⟩ := rw5 h9
      unfold set5 at r0 r1 r2 r3 r4
      refine bodyPost_ret (v := Sl.val ⟨i0, i3, m, 0, ls⟩) (by simp [results, Tryz.results14, go_sem, Sl.val, r0, r1, r2, r3, r4]) rfl ⟨rfl, ?_⟩
      rw [← HX.out]
      exact HBX.out.trans ((set5_chg X (w.heap.size + 1) _ _ _ _ _).below HBX.out.size (fun i e => by have := HX.out; omega))
    · have j0 : 0 < (n : Int) := by omega
      obtain ⟨g, rfl, hc, hgn⟩ := HQ.out hn X HBX.out gz _ HZ2.out
      obtain ⟨z0, z1, z2, z3, z4⟩ := rw5 HZ2.out
      obtain ⟨zf0, zf1, zf2, zf3, zf4⟩ := rw5f HZ2.out
      have h8 := Go.Joins.block_setCell (i := 3) HZ2.out (.int .u64 (fs : Int))
      have h8 : _ = some (Obj.cells #[.int .u32 (i0 : Int), .int .u32 (i3 : Int), .int .u32 (m : Int), .int .u64 (fs : Int), .int .u64 (ls : Int)] 39 (0, 0)) := h8
      have c8 := chg1 X gz 3 (.int .u64 (fs : Int))
      have hr8 := (c8.block (bx + 1) (Array.getElem?_eq_some_iff.1 HRX.out).1 (by have := HG.out; have := HX.out; omega)).trans HRX.out
      obtain ⟨q0, q1, q2, q3, q4⟩ := rw5 h8
      obtain ⟨x0, x1, x2, x3, x4⟩ := rw5 hr8
      obtain ⟨d0, d1, d2, d3, d4⟩ := rw5f hr8
      have HC8 := Lib.hid c8
      have H8 := Lib.hid hr8
      clear c8 hr8 h8
      go_wp2_with fail
      have h9 := set5_at H8.out (.int .u32 (i0 : Int)) (.int .u32 (i3 : Int)) (.int .u32 (m : Int)) (.int .u64 (fs : Int)) (.int .u64 (ls : Int))
      obtain ⟨r0, r1, r2, r3, r4⟩ := rw5 h9
      unfold set5 at r0 r1 r2 r3 r4
      refine bodyPost_ret (v := Sl.val ⟨i0, i3, m, fs, ls⟩) (by simp [results, Tryz.results14, go_sem, Sl.val, r0, r1, r2, r3, r4]) rfl ⟨rfl, ?_⟩
      have b8 := HBX.out.trans (HC8.out.below HBX.out.size (fun i e => by have := HG.out; omega))
      exact b8.trans ((set5_chg _ (bx + 1) _ _ _ _ _).below b8.size (fun i e => by have := HX.out; omega))
  · go_simp
    obtain ⟨gz, hgz⟩ : ∃ gz, V.heap.size = gz := ⟨_, rfl⟩
    rw [hgz]
    obtain ⟨V1, hV1⟩ : ∃ Vn, V.alloc (.cells #[.int .u32 0, .int .u32 0, .int .u32 0, .int .u64 0, .int .u64 0] 39) = Vn := ⟨_, rfl⟩
    rw [hV1]
    have hbn : Below V.heap.size V V1 := by rw [← hV1]; exact (Below.refl _ _).alloc (Nat.le_refl _) _
    have hz0 : V1.heap[gz]? = some (.cells #[.int .u32 0, .int .u32 0, .int .u32 0, .int .u64 0, .int .u64 0] 39 (0, 0)) := by rw [← hV1, ← hgz]; exact heap_alloc_new V _
    have HKV1 := Lib.hid ((hbn.block bx (Array.getElem?_eq_some_iff.1 HKV.out).1).trans HKV.out)
    have HRV1 := Lib.hid ((hbn.block (bx + 1) (Array.getElem?_eq_some_iff.1 HRV.out).1).trans HRV.out)
    have HBV1 := Lib.hid (HBV.out.trans (hbn.mono HBV.out.size))
    have HG := Lib.hid (show w.heap.size + 1 < gz by have := HBV.out.size; have := (Array.getElem?_eq_some_iff.1 HRV.out).1; have := HX.out; omega)
    clear hV1 hgz
    refine hK.out _ _ (rw5 HKV1.out) (fun hHeld => ?_)
    clear hK K
    try simp only [Act.put, List.setIfInBounds_toArray, List.set_cons_zero, List.set_cons_succ]
    refine wpAnyH_ready (rs := [14]) (by kernel_rfl) (by simp) ?_
    refine AllReadyH.cons rfl (fun K hK => ?_) AllReadyH.nil
    go_simp
    refine (HL.out V1 HBV1.out).mono ?_
    rintro e V2 ⟨rfl, hbn⟩
    have HKV2 := Lib.hid ((hbn.block bx (Array.getElem?_eq_some_iff.1 HKV1.out).1).trans HKV1.out)
    have HRV2 := Lib.hid ((hbn.block (bx + 1) (Array.getElem?_eq_some_iff.1 HRV1.out).1).trans HRV1.out)
    have HBV2 := Lib.hid (HBV1.out.trans (hbn.mono HBV1.out.size))
    have hz0 := (hbn.block gz (Array.getElem?_eq_some_iff.1 hz0).1).trans hz0
    go_wp2_with fail
    refine hK.out _ _ (rw5 HKV2.out) (fun hHeld => ?_)
    clear hK K
    try simp only [Act.put, List.setIfInBounds_toArray, List.set_cons_zero, List.set_cons_succ]
    refine wpAnyH_take (i := 15) (v := ?_) opAt_15 (by kernel_rfl) (by kernel_rfl) (by kernel_rfl) (fun _ _ _ h => h) (Or.inl ⟨by rfl, ?_⟩) (by assumption) ?_
    rotate_left
    · (intro w hSw; obtain ⟨y0, y1, y2, y3, y4⟩ := hSw; go_simp; try with_reducible rfl)
    try simp only [Act.put, List.setIfInBounds_toArray, List.set_cons_zero, List.set_cons_succ]
    have HZ := Lib.hid hz0
    clear hz0
    obtain ⟨z0, z1, z2, z3, z4⟩ := rw5 HZ.out
    obtain ⟨f0, f1, f2, f3, f4⟩ := rw5f HZ.out
    refine wpAnyH_ready (rs := [17]) (by kernel_rfl) (by simp) ?_
    refine AllReadyH.cons rfl (fun K hK => ?_) AllReadyH.nil
    go_simp
    have HZ2 := Lib.hid (set5_at HZ.out (.int .u32 (i0 : Int)) (.int .u32 (i3 : Int)) (.int .u32 (m : Int)) (.int .u64 0) (.int .u64 (ls : Int)))
    have HC2 := Lib.hid (set5_chg V2 gz (.int .u32 (i0 : Int)) (.int .u32 (i3 : Int)) (.int .u32 (m : Int)) (.int .u64 0) (.int .u64 (ls : Int)))
    change K _ (set5 V2 gz _ _ _ _ _)
    generalize set5 V2 gz (.int .u32 (i0 : Int)) (.int .u32 (i3 : Int)) (.int .u32 (m : Int)) (.int .u64 0) (.int .u64 (ls : Int)) = X at *
    clear z0 z1 z2 z3 z4 f0 f1 f2 f3 f4
    have HKX := Lib.hid ((HC2.out.block bx (Array.getElem?_eq_some_iff.1 HKV2.out).1 (by have := HG.out; have := HX.out; omega)).trans HKV2.out)
    have HRX := Lib.hid ((HC2.out.block (bx + 1) (Array.getElem?_eq_some_iff.1 HRV2.out).1 (by have := HG.out; have := HX.out; omega)).trans HRV2.out)
    have HBX := Lib.hid (HBV2.out.trans (HC2.out.below HBV2.out.size (fun i e => by have := HG.out; omega)))
    refine hK.out _ _ (rw5 HKX.out) (fun hHeld => ?_)
    clear hK K
    try simp only [Act.put, List.setIfInBounds_toArray, List.set_cons_zero, List.set_cons_succ]
    clear HC2 HZ hHeld
    refine wpAnyH_done (by kernel_rfl) ?_ _
    refine NoPanic.normal ?_
    obtain ⟨y0, y1, y2, y3, y4⟩ := rw5 HKX.out
    by_cases hn : n = 0
    · have j0 : ¬ 0 < (n : Int) := by omega
      obtain ⟨z0, z1, z2, z3, z4⟩ := rw5 HZ2.out
      obtain ⟨x0, x1, x2, x3, x4⟩ := rw5 HRX.out
      obtain ⟨d0, d1, d2, d3, d4⟩ := rw5f HRX.out
      have hfs := HF0.out hn
      go_wp2_with fail
      have h9 := set5_at HRX.out (.int .u32 (i0 : Int)) (.int .u32 (i3 : Int)) (.int .u32 (m : Int)) (.int .u64 0) (.int .u64 (ls : Int))
      obtain ⟨r0, r1, r2, r3, r4⟩ := rw5 h9
      unfold set5 at r0 r1 r2 r3 r4
      refine bodyPost_ret (v := Sl.val ⟨i0, i3, m, 0, ls⟩) (by simp [results, Tryz.results14, go_sem, Sl.val, r0, r1, r2, r3, r4]) rfl ⟨rfl, ?_⟩
      rw [← HX.out]
      exact HBX.out.trans ((set5_chg X (w.heap.size + 1) _ _ _ _ _).below HBX.out.size (fun i e => by have := HX.out; omega))
    · have j0 : 0 < (n : Int) := by omega
      obtain ⟨g, rfl, hc, hgn⟩ := HQ.out hn X HBX.out gz _ HZ2.out
      obtain ⟨z0, z1, z2, z3, z4⟩ := rw5 HZ2.out
      obtain ⟨zf0, zf1, zf2, zf3, zf4⟩ := rw5f HZ2.out
      have h8 := Go.Joins.block_setCell (i := 3) HZ2.out (.int .u64 (fs : Int))
      have h8 : _ = some (Obj.cells #[.int .u32 (i0 : Int), .int .u32 (i3 : Int), .int .u32 (m : Int), .int .u64 (fs : Int), .int .u64 (ls : Int)] 39 (0, 0)) := h8
      have c8 := chg1 X gz 3 (.int .u64 (fs : Int))
      have hr8 := (c8.block (bx + 1) (Array.getElem?_eq_some_iff.1 HRX.out).1 (by have := HG.out; have := HX.out; omega)).trans HRX.out
      obtain ⟨q0, q1, q2, q3, q4⟩ := rw5 h8
      obtain ⟨x0, x1, x2, x3, x4⟩ := rw5 hr8
      obtain ⟨d0, d1, d2, d3, d4⟩ := rw5f hr8
      have HC8 := Lib.hid c8
      have H8 := Lib.hid hr8
      clear c8 hr8 h8
      go_wp2_with fail
      have h9 := set5_at H8.out (.int .u32 (i0 : Int)) (.int .u32 (i3 : Int)) (.int .u32 (m : Int)) (.int .u64 (fs : Int)) (.int .u64 (ls : Int))
      obtain ⟨r0, r1, r2, r3, r4⟩ := rw5 h9
      unfold set5 at r0 r1 r2 r3 r4
      refine bodyPost_ret (v := Sl.val ⟨i0, i3, m, fs, ls⟩) (by simp [results, Tryz.results14, go_sem, Sl.val, r0, r1, r2, r3, r4]) rfl ⟨rfl, ?_⟩
      have b8 := HBX.out.trans (HC8.out.below HBX.out.size (fun i e => by have := HG.out; omega))
      exact b8.trans ((set5_chg _ (bx + 1) _ _ _ _ _).below b8.size (fun i e => by have := HX.out; omega))
end Go.Proofs.YtaicibmaogiibaaGreatDoor.Sc

