/-
  SegCrash, part 22 of what the law's proof leans on: ScOf, ScPlaces, ScLosts, ScKnows, ScKnC, ScTwo, ScLaw, ScLsQ.
-/
import Derived.Test.YtaicibmaogiibaaGreatDoorSegCrashQ21
import Derived.Test.YtaicibmaogiibaaGreatDoorSegCrashQ7
import Derived.RangeFuncNested
import Derived.RangeFuncBound
import Derived.RangeFuncCalls
import Derived.RangeFuncLeaves
import Derived.RangeFuncBox
import Derived.RangeFuncMany
import Derived.Shelf.Abstract
import Derived.Shelf.RegionOpen
import Derived.OwnWalkIn
import Derived.TacticsInMore
import Derived.LoopNIn
import Derived.LoopIn
import Derived.RegionIn
import Derived.BigRegionIn
import Derived.Test.YtaicibmaogiibaaGreatDoorSegCrashQ20
import Derived.Test.YtaicibmaogiibaaGreatDoorSegCrashQ1
import Derived.Test.YtaicibmaogiibaaGreatDoorSegCrashQ6
import Derived.Laws.EntriesVeiled
import Derived.Deep.RegionHeld3
import Derived.OpenShut
import Derived.Lib.AppendZerosOnto
import Derived.Deep.RegionLaw
import Derived.Deep.DeepCutAuto
import Derived.Test.YtaicibmaogiibaaGreatDoorSegCrashQ5
/- ScOf -/

/-
  Layer 12: the landed scan of a segment's bytes.
-/
set_option linter.unusedVariables false
set_option linter.unusedSimpArgs false
namespace Go.Proofs.YtaicibmaogiibaaGreatDoor.Sc
open Go Go.RowKit

/-- a step of the scan is a step of the document's way -/
theorem tk_go (id : Nat) (b : List UInt8) (s : S) (hid : s.id = id) (hw : s.why = 0) (hp : s.stop < b.length) (hm : s.stop ≤ 16777216) (hpos : ∀ f ∈ s.found, 0 ≤ f.r.seq) (hf : s.found.length + s.passed.length ≤ s.stop) (k : Nat) :
    ((tk s (b.drop s.stop)).why = 0 → go id b k (tk s (b.drop s.stop)).stop (lastF (tk s (b.drop s.stop)).found) (tk s (b.drop s.stop)).found (tk s (b.drop s.stop)).passed = go id b (k + 1) s.stop (lastF s.found) s.found s.passed) ∧
    ((tk s (b.drop s.stop)).why ≠ 0 → tk s (b.drop s.stop) = go id b (k + 1) s.stop (lastF s.found) s.found s.passed) ∧ (tk s (b.drop s.stop)).id = id ∧ (∀ f ∈ (tk s (b.drop s.stop)).found, 0 ≤ f.r.seq) ∧
    (tk s (b.drop s.stop)).found.length + (tk s (b.drop s.stop)).passed.length ≤ (tk s (b.drop s.stop)).stop ∧ ((tk s (b.drop s.stop)).why = 0 → s.stop < (tk s (b.drop s.stop)).stop ∧ (tk s (b.drop s.stop)).stop ≤ b.length) := by
  obtain ⟨⟨r, z, e⟩, hq⟩ : ∃ y, Rc.getQ (b.drop s.stop) = y := ⟨_, rfl⟩
  have hg := get_any hq
  subst hid
  have e2 : go s.id b (k + 1) s.stop (lastF s.found) s.found s.passed = if e = 22 then ⟨s.id, s.found, s.passed, s.stop, 22⟩ else if e = 0 then (if r.seq ≤ (lastF s.found : Int) then ⟨s.id, s.found, s.passed, s.stop, 23⟩ else go s.id b k (s.stop + z) r.seq (s.found ++ [⟨s.stop, z, r⟩]) s.passed) else if z = 0 then ⟨s.id, s.found, s.passed, s.stop, 23⟩ else go s.id b k (s.stop + z) (lastF s.found) s.found (s.passed ++ [s.stop]) := by
    conv => lhs; unfold go
    rw [hq, if_pos hp, if_neg (Nat.not_lt.2 hm)]
  have e1 : tk s (b.drop s.stop) = if e = 22 then { s with why := 22 } else if z = 0 ∨ (e = 0 ∧ r.seq ≤ (lastF s.found : Int)) then { s with why := 23 } else if e = 0 then { s with found := s.found ++ [⟨s.stop, z, r⟩], stop := s.stop + z } else { s with passed := s.passed ++ [s.stop], stop := s.stop + z } := by
    unfold tk
    rw [hq]
  have stay : ∀ y : Nat, y ≠ 0 → ((({ s with why := y } : S).why = 0 → go s.id b k ({ s with why := y } : S).stop (lastF ({ s with why := y } : S).found) ({ s with why := y } : S).found ({ s with why := y } : S).passed = ⟨s.id, s.found, s.passed, s.stop, y⟩) ∧
    (({ s with why := y } : S).why ≠ 0 → ({ s with why := y } : S) = ⟨s.id, s.found, s.passed, s.stop, y⟩) ∧ ({ s with why := y } : S).id = s.id ∧ (∀ f ∈ ({ s with why := y } : S).found, 0 ≤ f.r.seq) ∧
    ({ s with why := y } : S).found.length + ({ s with why := y } : S).passed.length ≤ ({ s with why := y } : S).stop ∧ (({ s with why := y } : S).why = 0 → s.stop < ({ s with why := y } : S).stop ∧ ({ s with why := y } : S).stop ≤ b.length)) := fun y hy =>
    ⟨fun h => absurd h hy, fun _ => rfl, rfl, hpos, hf, fun h => absurd h hy⟩
  rcases hg.1 with rfl | rfl | rfl
  · have hz := hg.2.2 rfl
    have hl := hg.2.1 (by decide) hz
    rw [List.length_drop] at hl
    have hs := get_seq hq
    rw [if_neg (by decide), if_pos rfl] at e2
    rw [if_neg (by decide)] at e1
    by_cases hsq : r.seq ≤ (lastF s.found : Int)
    · rw [if_pos hsq] at e2
      rw [if_pos (Or.inr ⟨rfl, hsq⟩)] at e1
      rw [e1, e2]
      exact stay 23 (by decide)
    · rw [if_neg hsq] at e2
      rw [if_neg (by rintro (h | ⟨_, h⟩) <;> contradiction), if_pos rfl] at e1
      rw [e1, e2]
      dsimp only
      have e : ((lastF (s.found ++ [⟨s.stop, z, r⟩]) : Nat) : Int) = r.seq := by rw [lastF_snoc]; exact Int.toNat_of_nonneg (by show 0 ≤ r.seq; omega)
      refine ⟨fun _ => by rw [e], fun h => absurd hw h, rfl, fun f hf => ?_, ?_, fun _ => ⟨by omega, by omega⟩⟩
      · rcases List.mem_append.1 hf with hf | hf
        · exact hpos f hf
        · rw [List.mem_singleton.1 hf]; show 0 ≤ r.seq; omega
      · rw [List.length_append]
        show s.found.length + 1 + s.passed.length ≤ _
        omega
  · rw [if_pos rfl] at e1 e2
    rw [e1, e2]
    exact stay 22 (by decide)
  · rw [if_neg (by decide)] at e1 e2
    rw [if_neg (by decide)] at e2
    by_cases hz : z = 0
    · rw [if_pos hz] at e2
      rw [if_pos (Or.inl hz)] at e1
      rw [e1, e2]
      exact stay 23 (by decide)
    · have hl := hg.2.1 (by decide) hz
      rw [List.length_drop] at hl
      rw [if_neg hz] at e2
      rw [if_neg (by rintro (h | ⟨h, _⟩); exact hz h; exact absurd h (by decide)), if_neg (by decide)] at e1
      rw [e1, e2]
      dsimp only
      refine ⟨fun _ => rfl, fun h => absurd hw h, rfl, hpos, ?_, fun _ => ⟨by omega, by omega⟩⟩
      rw [List.length_append]
      show s.found.length + (s.passed.length + 1) ≤ _
      omega
theorem cut_o (A : Option Addr) (n c k r : Nat) (hn : n = k + r) (hnc : n ≤ c) (hr0 : 0 < r) : ∃ A' c', Option.map (fun x => x.add k) A = A' ∧ c - k = c' ∧ r ≤ c' ∧ ∀ w B l, l.length ≤ c → Rd w B A (bvs l) → Rd w B A' (bvs (l.drop k)) := by
  refine ⟨_, _, rfl, rfl, by omega, fun w B l hl hr => ?_⟩
  have := hr.cut (k := k) (cap := c) (by rw [bvs_length]; exact hl)
  rw [if_neg (by omega), ← bvs_drop] at this
  exact this
/-- what stands at the loop's head -/
def OfR (w wr : World) (id : Nat) (b : List UInt8) (br B k : Nat) : Prop :=
  ∃ s, ScanB wr w.heap.size B s ∧ Below w.heap.size w wr ∧ wr.heap[br]? = some (.cells #[.int .u32 0, .slice none 0 0, .slice none 0 0, .int .i64 0, .int .i64 0] 44 (0, 0)) ∧ s.id = id ∧ (s.why = 0 → go id b k s.stop (lastF s.found) s.found s.passed = of id b ∧ s.stop ≤ b.length + 16 ∧ b.length < s.stop + k) ∧
    (s.why ≠ 0 → s = of id b) ∧ (∀ f ∈ s.found, 0 ≤ f.r.seq) ∧ s.found.length + s.passed.length ≤ s.stop
/-- the result is stored, and told -/
theorem of_fin {w wr : World} {br B : Nat} {s : S} {q : List Fq} {Af Ap : Option Addr} {nf cf np cp i0 i3 i4 : Nat} (h : TkI wr w.heap.size B s q Af nf cf Ap np cp) (e : s.id = i0 ∧ s.stop = i3 ∧ s.why = i4) (hb : Below w.heap.size w wr) (hbr : w.heap.size ≤ br) (hne : br ≠ B)
    {arr : Array Value} (hr : wr.heap[br]? = some (.cells arr 44 (0, 0))) {X : World} (hc : Chg (fun i => i = br) wr X) :
    ScanV 56 X w.heap.size (.agg #[.int .u32 (i0 : Int), .slice Af nf cf, .slice Ap np cp, .int .i64 (i3 : Int), .int .i64 (i4 : Int)]) s ∧ Below w.heap.size w X := by
  obtain ⟨rfl, rfl, rfl⟩ := e
  have hty : Typed wr 44 (fun i => i = br) := fun g e => by obtain rfl : g = br := e; exact ⟨_, _, hr⟩
  have hn := h.hn
  have hp := h.hp
  exact ⟨⟨_, _, q, rfl, h.hq, by rw [hn]; exact hty.own (by decide) hc h.own, fun x hx => (h.ok x hx).apart hty (by decide) hc, by rw [hp]; exact hty.own (by decide) hc h.pown⟩, hb.trans (hc.below hb.size (fun i e => by obtain rfl : i = br := e; exact hbr))⟩
set_option maxRecDepth 100000 in
set_option maxHeartbeats 16000000 in
theorem sof (v : Value) (b : List UInt8) (id : Nat) (w : World) (h : Bs w w.heap.size v b) (hm : b.length ≤ 100000) (hid : id < 4294967296) (ht : RTab w) :
    Calls Tryz.prog 29 #[.int .u32 (id : Int), v] w fun e w' => ∃ rv, e = .returned rv ∧ ScanV 56 w' w.heap.size rv (of id b) ∧ Below w.heap.size w w' := by
  have h0 := h
  obtain ⟨Av, cv, rfl, hcv, hrd⟩ := h0
  clear hrd
  obtain ⟨n, hn⟩ : ∃ n, n = b.length := ⟨_, rfl⟩
  obtain ⟨q0, hq0⟩ : ∃ q0, Hd.checkN b 1 id = q0 := ⟨_, rfl⟩
  obtain ⟨br, hbr⟩ : ∃ br, w.heap.size = br := ⟨_, rfl⟩
  obtain ⟨W, hW⟩ : ∃ W, w.alloc (.cells #[.int .u32 0, .slice none 0 0, .slice none 0 0, .int .i64 0, .int .i64 0] 44) = W := ⟨_, rfl⟩
  have hb : Below w.heap.size w W := by rw [← hW]; exact (Below.refl _ _).alloc (Nat.le_refl _) _
  have hk : W.heap[br]? = some (.cells #[.int .u32 0, .slice none 0 0, .slice none 0 0, .int .i64 0, .int .i64 0] 44 (0, 0)) := by rw [← hW, ← hbr]; exact heap_alloc_new w _
  have HC := Lib.hid (Hd.check_any (.slice Av b.length cv) b w.heap.size 1 (id : Int) W (h.below hb (Nat.le_refl _)) hb.size (by omega) (ht.on hb).1 q0 hq0)
  have HN := Lib.hid hn
  have H := Lib.hid h
  have HB := Lib.hid hb
  have HBR := Lib.hid hbr
  have HK := Lib.hid hk
  have HQ0 := Lib.hid hq0
  have HM := Lib.hid hm
  have HT := Lib.hid ht
  rw [← hn] at hcv HC ⊢
  clear h hb hm hq0 hk hn ht
  go_enter Tryz.func29, Tryz.ntmps29
  go_wp2_with fail
  refine HC.out.mono ?_
  rintro e w1 ⟨rfl, hb1⟩
  obtain ⟨B, hB⟩ : ∃ B, w1.heap.size = B := ⟨_, rfl⟩
  obtain ⟨W2, hW2⟩ : ∃ W2, w1.alloc (.cells #[.int .u32 (id : Int), .slice none 0 0, .slice none 0 0, .int .i64 0, .int .i64 (q0 : Int)] 44) = W2 := ⟨_, rfl⟩
  have hb2 : Below w1.heap.size w1 W2 := by rw [← hW2]; exact (Below.refl _ _).alloc (Nat.le_refl _) _
  have hs2 : W2.heap[B]? = some (.cells #[.int .u32 (id : Int), .slice none 0 0, .slice none 0 0, .int .i64 0, .int .i64 (q0 : Int)] 44 (0, 0)) := by rw [← hW2, ← hB]; exact heap_alloc_new w1 _
  have hr1 := (hb1.block br (Array.getElem?_eq_some_iff.1 HK.out).1).trans HK.out
  have hr2 := (hb2.block br (Array.getElem?_eq_some_iff.1 hr1).1).trans hr1
  have hbw2 : Below w.heap.size w W2 := (HB.out.trans (hb1.mono HB.out.size)).trans (hb2.mono (Nat.le_trans HB.out.size hb1.size))
  have HNE := Lib.hid (show br < B by rw [← hB]; exact (Array.getElem?_eq_some_iff.1 hr1).1)
  obtain ⟨y0, y1, y2, y3, y4⟩ := rw5 hs2
  obtain ⟨g0, g1, g2, g3, g4⟩ := rw5f hs2
  have HBW := Lib.hid hbw2
  have HSR := Lib.hid (And.intro hs2 hr2)
  have hI0 : TkI W2 w.heap.size B ⟨id, [], [], 0, q0⟩ [] none 0 0 none 0 0 := ⟨hs2, rfl, rfl, rfl, World.ownsRow_nil _ _ _ _, by simp, World.ownsRow_nil _ _ _ _⟩
  have HI0 := Lib.hid hI0
  clear hb1 hb2 hs2 hr1 hr2 hbw2 hI0 HC HK
  by_cases hz : q0 = 0
  · have j0 : ((q0 : Int) != 0) = false := by rw [hz]; rfl
    have j1 : decide ((q0 : Int) = 0) = true := by rw [hz]; rfl
    have hs3 := Go.Joins.block_setCell (i := 3) HSR.out.1 (.int .i64 16)
    have hs3 : _ = some (Obj.cells #[.int .u32 (id : Int), .slice none 0 0, .slice none 0 0, .int .i64 16, .int .i64 (q0 : Int)] 44 (0, 0)) := hs3
    have hR0 : Hid (OfR w (W2.setCell ⟨B, 3, none⟩ (.int .i64 16)) id b br B (n + 1)) := Lib.hid ⟨⟨id, [], [], 16, q0⟩, ⟨none, 0, 0, none, 0, 0, [], hs3, rfl, rfl, rfl, World.ownsRow_nil _ _ _ _, by simp, World.ownsRow_nil _ _ _ _⟩,
      HBW.out.setCell (by show w.heap.size ≤ B; have := HNE.out; have := HBR.out; omega) _, ((chg1 W2 B 3 (.int .i64 16)).block br (Array.getElem?_eq_some_iff.1 HSR.out.2).1 (by have := HNE.out; omega)).trans HSR.out.2, rfl, fun _ => ⟨by rw [of, HQ0.out, if_pos hz, HN.out]; rfl, by simp, by simp only; rw [HN.out]; omega⟩, fun h => absurd hz h, by simp, by simp⟩
    clear hz
    clear hs3
    go_wp2_with fail
    go_loopg [] (n + 1) (fun k wr => Hid (OfR w wr id b br B k))
    case atStart => exact hR0
    case round =>
      rename World => wr
      clear hR0 y0 y1 y2 y3 y4 g0 g1 g2 g3 g4 j0 j1
      obtain ⟨s, hS, hbw, hrb, hsid, hgo, hne, hpos, hfew⟩ := hrel.out
      clear hrel
      obtain ⟨q, Af, nf, cf, Ap, np, cp, hI⟩ := hS.open
      obtain ⟨i3, hi3⟩ : ∃ i3, s.stop = i3 := ⟨_, rfl⟩
      obtain ⟨i4, hi4⟩ : ∃ i4, s.why = i4 := ⟨_, rfl⟩
      obtain ⟨y0, y1, y2, y3, y4⟩ := rw5 (hI.blk' hsid hi3 hi4)
      obtain ⟨g0, g1, g2, g3, g4⟩ := rw5f (hI.blk' hsid hi3 hi4)
      by_cases h4 : i4 = 0
      · subst h4
        rw [show ((0 : Nat) : Int) = 0 from rfl] at *
        obtain ⟨hg1, hg2, hg3⟩ := hgo hi4
        by_cases h3 : i3 < n
        · obtain ⟨k, rfl⟩ : ∃ k, gk = k + 1 := ⟨gk - 1, by have := HN.out; omega⟩
          obtain ⟨r, hr⟩ : ∃ r, n = i3 + r := ⟨n - i3, by omega⟩
          obtain ⟨A2, c2, hA2, hc2, hbs2⟩ := cut_o Av n cv i3 r hr hcv (by omega)
          have hn100 : n ≤ 100000 := by rw [HN.out]; exact HM.out
          have hbs3 : Bs wr w.heap.size (.slice A2 r c2) (b.drop i3) := by
            obtain ⟨A, c, e, hc, hrd⟩ := H.out.below hbw (Nat.le_refl _)
            injection e with e1 _ e3
            subst e1
            subst e3
            have hl := HN.out
            exact ⟨A2, c2, by rw [List.length_drop, ← hl, hr, Nat.add_sub_cancel_left], by rw [List.length_drop, ← hl]; have := hbs2.1; omega, hbs2.2 _ _ b hc hrd⟩
          have htg := tk_go id b s hsid hi4 (by rw [hi3, ← HN.out]; exact h3) (by rw [hi3]; omega) hpos hfew k
          rw [hi3] at htg
          have HTk := Lib.hid (stake hS (by have := HNE.out; have := HBR.out; omega) hbw.size hbs3 (HT.out.on hbw) (by rw [List.length_drop, ← HN.out]; omega) (by rw [hi3]; omega) (by rw [hi3] at hfew; omega) hpos)
          have HG := Lib.hid htg
          have HG1 := Lib.hid hg1
          rw [hi3] at hg3
          have HG3 := Lib.hid hg3
          have HR := Lib.hid (And.intro hbw (And.intro hrb hi3))
          have i1 : (i3 : Int) < (n : Int) := by omega
          have hnr : n - i3 = r := by omega
          clear hr
          clear hI hS hbw hrb hsid hgo hne hpos hfew hg1 hg2 hg3 htg hbs3 hbs2 hi3 hi4
          go_wp2_with fail
          refine HTk.out.mono ?_
          rintro e' w2 ⟨⟨u, rfl⟩, hS2, hb2, hk2⟩
          go_wp2_with fail
          go_roundg k
          case measure => omega
          case rel =>
            obtain ⟨t1, t2, t3, t4, t5, t6⟩ := HG.out
            have hg1 := HG1.out
            rw [HR.out.2.2] at hg1
            exact Lib.hid ⟨tk s (b.drop i3), hS2, HR.out.1.trans hb2, hk2 br _ _ (by have := HNE.out; omega) HR.out.2.1, t3, fun h => ⟨(t1 h).trans hg1, by have := (t6 h).2; omega, by have := (t6 h).1; have := HG3.out; omega⟩, fun h => (t2 h).trans hg1, t4, t5⟩
        · have i1 : ¬ (i3 : Int) < (n : Int) := by omega
          have hof : s = of id b := by
            rw [← hg1]
            obtain ⟨sid, sf, sp, st, sw⟩ := s
            simp only at hsid hi3 hi4
            subst hsid hi3 hi4
            cases gk with
            | zero => rfl
            | succ k => unfold go; rw [if_neg (by rw [← HN.out]; exact h3)]
          have HI := Lib.hid hI
          have HR := Lib.hid (And.intro hbw hrb)
          obtain ⟨x0, x1, x2, x3, x4⟩ := rw5 hrb
          obtain ⟨d0, d1, d2, d3, d4⟩ := rw5f hrb
          have HO := Lib.hid hof
          have HSS := Lib.hid (And.intro hsid (And.intro hi3 hi4))
          clear hI hbw hrb hof hsid hi3 hi4 hgo hne hpos hfew hS
          go_wp2_with fail
          have hX := set5_at HR.out.2 (.int .u32 (id : Int)) (.slice Af nf cf) (.slice Ap np cp) (.int .i64 (i3 : Int)) (.int .i64 0)
          obtain ⟨z0, z1, z2, z3, z4⟩ := rw5 hX
          unfold set5 at z0 z1 z2 z3 z4
          have hf := of_fin HI.out HSS.out HR.out.1 (by rw [HBR.out]; exact Nat.le_refl _) (by have := HNE.out; omega) HR.out.2 (set5_chg wr br (.int .u32 (id : Int)) (.slice Af nf cf) (.slice Ap np cp) (.int .i64 (i3 : Int)) (.int .i64 0))
          rw [← HO.out]
          rw [HBR.out] at hf
          exact bodyPost_ret (v := .agg #[.int .u32 (id : Int), .slice Af nf cf, .slice Ap np cp, .int .i64 (i3 : Int), .int .i64 0]) (by simp [results, Tryz.results29, go_sem, z0, z1, z2, z3, z4]) rfl ⟨_, rfl, hf.1, hf.2⟩
      · have j0 : ¬ (i4 : Int) = 0 := by omega
        have hof : s = of id b := hne (by rw [hi4]; exact h4)
        have HI := Lib.hid hI
        have HR := Lib.hid (And.intro hbw hrb)
        obtain ⟨x0, x1, x2, x3, x4⟩ := rw5 hrb
        obtain ⟨d0, d1, d2, d3, d4⟩ := rw5f hrb
        have HO := Lib.hid hof
        have HSS := Lib.hid (And.intro hsid (And.intro hi3 hi4))
        clear hI hbw hrb hof hsid hi3 hi4 hgo hne hpos hfew hS
        go_wp2_with fail
        have hX := set5_at HR.out.2 (.int .u32 (id : Int)) (.slice Af nf cf) (.slice Ap np cp) (.int .i64 (i3 : Int)) (.int .i64 (i4 : Int))
        obtain ⟨z0, z1, z2, z3, z4⟩ := rw5 hX
        unfold set5 at z0 z1 z2 z3 z4
        have hf := of_fin HI.out HSS.out HR.out.1 (by rw [HBR.out]; exact Nat.le_refl _) (by have := HNE.out; omega) HR.out.2 (set5_chg wr br (.int .u32 (id : Int)) (.slice Af nf cf) (.slice Ap np cp) (.int .i64 (i3 : Int)) (.int .i64 (i4 : Int)))
        rw [← HO.out]
        exact bodyPost_ret (v := .agg #[.int .u32 (id : Int), .slice Af nf cf, .slice Ap np cp, .int .i64 (i3 : Int), .int .i64 (i4 : Int)]) (by simp [results, Tryz.results29, go_sem, z0, z1, z2, z3, z4]) rfl ⟨_, rfl, hf.1, hf.2⟩
  · have i0 : ¬ (q0 : Int) = 0 := by omega
    have j0 : ((q0 : Int) != 0) = true := by simpa using hz
    obtain ⟨x0, x1, x2, x3, x4⟩ := rw5 HSR.out.2
    obtain ⟨d0, d1, d2, d3, d4⟩ := rw5f HSR.out.2
    go_wp2_with fail
    have hX := set5_at HSR.out.2 (.int .u32 (id : Int)) (.slice none 0 0) (.slice none 0 0) (.int .i64 0) (.int .i64 (q0 : Int))
    obtain ⟨z0, z1, z2, z3, z4⟩ := rw5 hX
    unfold set5 at z0 z1 z2 z3 z4
    have hf := of_fin HI0.out ⟨rfl, rfl, rfl⟩ HBW.out (by rw [HBR.out]; exact Nat.le_refl _) (by have := HNE.out; omega) HSR.out.2 (set5_chg W2 br (.int .u32 (id : Int)) (.slice none 0 0) (.slice none 0 0) (.int .i64 0) (.int .i64 (q0 : Int)))
    have ho : of id b = ⟨id, [], [], 0, q0⟩ := by rw [of, HQ0.out, if_neg hz]
    rw [ho]
    exact bodyPost_ret (v := .agg #[.int .u32 (id : Int), .slice none 0 0, .slice none 0 0, .int .i64 0, .int .i64 (q0 : Int)]) (by simp [results, Tryz.results29, go_sem, z0, z1, z2, z3, z4]) rfl ⟨_, rfl, hf.1, hf.2⟩
end Go.Proofs.YtaicibmaogiibaaGreatDoor.Sc

/- ScPlaces -/

/-
  Layer 12: the landed scan's places: the range-function, over whatever loop keeps the scan.
-/
set_option linter.unusedVariables false
set_option linter.unusedSimpArgs false
namespace Go.Proofs.YtaicibmaogiibaaGreatDoor.Sc
open Go Go.RowKit

/-- a number below n, or none -/
abbrev Pla (n : Nat) := Option { i : Nat // i < n }
def Pla.num {n : Nat} (x : Pla n) : Option Nat := x.map (·.1)
/-- what a round that goes on keeps: what lay ahead of Lost, and the scan's block -/
def KpP (n₀ Bs : Nat) (W W' : World) : Prop := Below n₀ W W' ∧ ∀ arr z, W.heap[Bs]? = some (.cells arr 44 z) → W'.heap[Bs]? = some (.cells arr 44 z)
theorem KpP.trans {n₀ Bs : Nat} {A B C : World} (h : KpP n₀ Bs A B) (k : KpP n₀ Bs B C) : KpP n₀ Bs A C := ⟨h.1.trans k.1, fun arr z hh => k.2 arr z (h.2 arr z hh)⟩
theorem KpP.refl {n₀ Bs : Nat} {A : World} : KpP n₀ Bs A A := ⟨Below.refl _ _, fun _ _ h => h⟩
/-- what the iterator reads, in a world -/
structure PlR (W : World) (n₀ Bs g nf cf : Nat) (Af : Option Addr) (a0 a3 a4 : Value) (ps offs : List Nat) (Ap : Option Addr) (np cp : Nat) : Prop where
  blk : W.heap[Bs]? = some (.cells #[a0, .slice Af nf cf, .slice Ap np cp, a3, a4] 44 (0, 0))
  fnd : ∀ (i o : Nat), offs[i]? = some o → W.cell? ⟨g, i * 9 + 1, none⟩ = some (.int .u32 (o : Int))
  pas : Rd W n₀ Ap (ps.map fun q : Nat => Value.int .i64 (q : Int))
theorem PlR.on {W W' : World} {n₀ Bs g nf cf : Nat} {Af : Option Addr} {a0 a3 a4 : Value} {ps offs : List Nat} {Ap : Option Addr} {np cp : Nat} (h : PlR W n₀ Bs g nf cf Af a0 a3 a4 ps offs Ap np cp) (hk : KpP n₀ Bs W W') (hg : offs ≠ [] → g < n₀) : PlR W' n₀ Bs g nf cf Af a0 a3 a4 ps offs Ap np cp :=
  ⟨hk.2 _ _ h.blk, fun i o ho => (hk.1.cell (p := ⟨g, i * 9 + 1, none⟩) (hg (by rintro rfl; simp at ho))).trans (h.fnd i o ho), h.pas.below hk.1 (Nat.le_refl _)⟩
end Go.Proofs.YtaicibmaogiibaaGreatDoor.Sc

/- ScLosts -/

/-
  Layer 12: the landed scan: what may be lost, by a seal.
-/
set_option linter.unusedVariables false
set_option linter.unusedSimpArgs false
namespace Go.Proofs.YtaicibmaogiibaaGreatDoor.Sc
open Go Go.RowKit
attribute [local go_sem] Oper.semAt_some

section
variable {w w' : World} {row : Option Nat}
end
/-- what was found there -/
def Pla.fd {n : Nat} (fs : List Fd) (x : Pla n) : Option Fd := x.num.bind fun i => fs[i]?
section
variable {w W W' : World} {bx L Fb g7 g8 : Nat} {s : S} {x : Sl} {vf vp : Value} {st : Int × Bool × List (Int × Int)}
/-- what a round keeps -/
def Fr2 (n₀ Bs : Nat) (W W' : World) : Prop := KeepsOthers W W' ∧ KpP n₀ Bs W W'
theorem Fr2.trans {n₀ Bs : Nat} {A B C : World} (h : Fr2 n₀ Bs A B) (k : Fr2 n₀ Bs B C) : Fr2 n₀ Bs A C := ⟨h.1.trans k.1, h.2.trans k.2⟩
theorem Fr2.drew {n₀ Bs : Nat} {W : World} : Fr2 n₀ Bs W W.drew := ⟨⟨Nat.le_refl _, fun _ _ h _ => h⟩, (Below.refl n₀ W).drew, fun _ _ h => h⟩
end
end Go.Proofs.YtaicibmaogiibaaGreatDoor.Sc

/- ScKnows -/

/-
  Layer 12: what the laws know of the chapter's rows.
-/
set_option linter.unusedVariables false
set_option linter.unusedSimpArgs false
namespace Go.Proofs.YtaicibmaogiibaaGreatDoor.Sc
open Go Go.RowKit

section
variable {w w' : World} {N : Nat → Prop} {lo : Nat} {v : Value}
theorem RowIn.chg {l : List UInt8} (h : RowIn w lo v l) (hc : Chg N w w') (hN : ∀ i, N i → i < lo) : RowIn w' lo v l := by
  rcases h with ⟨rfl, rfl⟩ | ⟨g, rfl, h1, h⟩
  · exact .inl ⟨rfl, rfl⟩
  · exact .inr ⟨g, rfl, h1, (hc.block g h.lt (fun hn => by have := hN g hn; omega)).trans h⟩
theorem own_chg {base size n : Nat} {e : TypeId} {xs : List Value} (h : w.ownsRow base e size v n xs) (hc : Chg N w w') (hN : ∀ i, N i → i < base) : w'.ownsRow base e size v n xs :=
  hc.own h fun g hv hn => by have := (h.lt g hv).1; have := hN g hn; omega
theorem ScanV.chg {T : TypeId} {s : S} (h : ScanV T w lo v s) (hc : Chg N w w') (hN : ∀ i, N i → i < lo) : ScanV T w' lo v s := by
  obtain ⟨vf, vp, q, h1, h2, h3, h4, h5⟩ := h
  exact ⟨vf, vp, q, h1, h2, own_chg h3 hc hN, fun x hx => ⟨RowIn.chg (h4 x hx).key hc hN, RowIn.chg (h4 x hx).val hc hN⟩, own_chg h5 hc hN⟩
/-- a scan's value, its numbers spelled out -/
theorem ScanV.lit {T : TypeId} {s : S} (h : ScanV T w lo v s) (i st wy : Int) (n np : Nat) (h1 : (s.id : Int) = i) (h2 : s.found.length = n) (h3 : s.passed.length = np) (h4 : (s.stop : Int) = st) (h5 : (s.why : Int) = wy) :
    ∃ Af cf Ap cp, ∃ q : List Fq, v = .agg #[.int .u32 i, .slice Af n cf, .slice Ap np cp, .int .i64 st, .int .i64 wy] ∧ q.map (·.1) = s.found ∧ n ≤ cf ∧ np ≤ cp ∧ w.ownsRow lo T 9 (.slice Af n cf) n (rowF s.id q) ∧ w.ownsRow lo 3 1 (.slice Ap np cp) np (s.passed.map fun n : Nat => Value.int .i64 (n : Int)) := by
  obtain ⟨Af, nf, cf, Ap, np', cp, q, e, hq, hn, hp, hf, e1, e2, e3, e4, o1, _, o2⟩ := h.open
  subst h1 h2 h3 h4 h5
  subst hf hp
  exact ⟨Af, cf, Ap, cp, q, e, hq, e1, e3, o1, o2⟩
theorem Rd.set1 {B g j : Nat} {xs : List Value} {x : Value} (h : Rd w B (some ⟨g, 0, none⟩) xs) (hj : j < xs.length) : Rd (w.setCell ⟨g, j, none⟩ x) B (some ⟨g, 0, none⟩) (xs.set j x) := fun hx => by
  obtain ⟨b, o, e, hb, hc⟩ := h (by intro e; rw [e] at hj; simp at hj)
  injection e with e
  injection e with e1 e2 _
  subst e1 e2
  refine ⟨g, 0, rfl, hb, fun k u hu => ?_⟩
  rw [Nat.zero_add]
  rw [List.getElem?_set] at hu
  by_cases hk : j = k
  · subst hk
    rw [if_pos rfl, if_pos hj] at hu
    injection hu with hu
    subst hu
    have := hc j _ (List.getElem?_eq_getElem hj)
    rw [Nat.zero_add] at this
    exact World.cell?_setCell_same' _ _ _ (by rw [this]; rfl)
  · rw [if_neg hk] at hu
    have := hc k u hu
    rw [Nat.zero_add] at this
    rw [← this]
    exact World.cell?_setCell_other _ _ _ _ (by intro e; injection e with _ e _; exact hk e)
end
end Go.Proofs.YtaicibmaogiibaaGreatDoor.Sc

/- ScKnC -/

/-
  Layer 12: ScanKnown's closure, and a scan in a block of its own.
-/
set_option linter.unusedVariables false
set_option linter.unusedSimpArgs false
set_option maxRecDepth 100000
set_option maxHeartbeats 8000000
namespace Go.Proofs.YtaicibmaogiibaaGreatDoor.Sc
open Go.RowKit Go.Proofs.YtaicibmaogiibaaGreatDoor

/-- a scan in block g -/
def ScBox (w : World) (lo g : Nat) (s : S) (Af : Option Addr) (cf : Nat) (Ap : Option Addr) (cp : Nat) : Prop := w.heap[g]? = some (.cells #[.int .u32 (s.id : Int), .slice Af s.found.length cf, .slice Ap s.passed.length cp, .int .i64 (s.stop : Int), .int .i64 (s.why : Int)] 44 (0, 0)) ∧
  ScanV 56 w lo (.agg #[.int .u32 (s.id : Int), .slice Af s.found.length cf, .slice Ap s.passed.length cp, .int .i64 (s.stop : Int), .int .i64 (s.why : Int)]) s

theorem ScBox.on {w w' : World} {lo g : Nat} {s : S} {Af : Option Addr} {cf : Nat} {Ap : Option Addr} {cp : Nat} (h : ScBox w lo g s Af cf Ap cp) (hb : Below w.heap.size w w') : ScBox w' lo g s Af cf Ap cp :=
  ⟨(hb.block g (Array.getElem?_eq_some_iff.1 h.1).1).trans h.1, h.2.on hb⟩

end Go.Proofs.YtaicibmaogiibaaGreatDoor.Sc

/- ScTwo -/

/-
  Layer 12: two scans, each stored in a block of its own.
-/
set_option linter.unusedVariables false
set_option linter.unusedSimpArgs false
namespace Go.Proofs.YtaicibmaogiibaaGreatDoor.Sc
open Go Go.RowKit Go.Proofs.YtaicibmaogiibaaGreatDoor

/-- a block of a scan is changed: other scans' values are as they were -/
theorem ScanV.apart {T : TypeId} {w w' : World} {lo : Nat} {v : Value} {s : S} {N : Nat → Prop} {T' : TypeId} (h : ScanV T w lo v s) (hg : Typed w T' N) (h1 : T ≠ T') (h2 : T' ≠ 5) (h3 : 3 ≠ T') (hc : Chg N w w') : ScanV T w' lo v s := by
  obtain ⟨vf, vp, q, e1, e2, e3, e4, e5⟩ := h
  exact ⟨vf, vp, q, e1, e2, hg.own h1 hc e3, fun x hx => FqOk.apart hg h2 hc (e4 x hx), hg.own h3 hc e5⟩
/-- the block g holds the scan s, whose memory is from lo on -/
def AtScan (w : World) (B g : Nat) (s : S) : Prop := B ≤ g ∧ ∃ lo Af cf Ap cp, B ≤ lo ∧ ScBox w lo g s Af cf Ap cp
theorem AtScan.on {w w' : World} {B g : Nat} {s : S} (h : AtScan w B g s) (hb : Below w.heap.size w w') : AtScan w' B g s := by
  obtain ⟨h0, lo, Af, cf, Ap, cp, h1, h2⟩ := h
  exact ⟨h0, lo, Af, cf, Ap, cp, h1, h2.on hb⟩
/-- a call's scan, not stored yet -/
def TellS (w : World) (B : Nat) (v : Value) (s : S) : Prop := ∃ lo, B ≤ lo ∧ ScanV 56 w lo v s
theorem TellS.on {w w' : World} {B : Nat} {v : Value} {s : S} (h : TellS w B v s) (hb : Below w.heap.size w w') : TellS w' B v s := by
  obtain ⟨lo, h1, h2⟩ := h
  exact ⟨lo, h1, h2.on hb⟩
theorem TellS.lit {w : World} {B : Nat} {v : Value} {s : S} (h : TellS w B v s) (i st wy : Int) (n np : Nat) (h1 : (s.id : Int) = i) (h2 : s.found.length = n) (h3 : s.passed.length = np) (h4 : (s.stop : Int) = st) (h5 : (s.why : Int) = wy) :
    ∃ Af cf Ap cp, v = .agg #[.int .u32 i, .slice Af n cf, .slice Ap np cp, .int .i64 st, .int .i64 wy] := by
  obtain ⟨lo, _, hs⟩ := h
  obtain ⟨Af, cf, Ap, cp, q, rfl, _⟩ := hs.lit i st wy n np h1 h2 h3 h4 h5
  exact ⟨Af, cf, Ap, cp, rfl⟩
theorem ScanV.cells {w : World} {lo : Nat} {s : S} {Af Ap : Option Addr} {nf cf np cp : Nat} {i st wy : Int} (h : ScanV 56 w lo (.agg #[.int .u32 i, .slice Af nf cf, .slice Ap np cp, .int .i64 st, .int .i64 wy]) s) :
    i = (s.id : Int) ∧ nf = s.found.length ∧ np = s.passed.length ∧ st = (s.stop : Int) ∧ wy = (s.why : Int) := by
  obtain ⟨Af', nf', cf', Ap', np', cp', q, e, h1, h2, h3, h4, _⟩ := h.open
  simp only [Value.agg.injEq, Array.mk.injEq, List.cons.injEq, Value.int.injEq, Value.slice.injEq, and_true, true_and] at e
  obtain ⟨e0, ⟨_, e1, _⟩, ⟨_, e2, _⟩, e3, e4⟩ := e
  exact ⟨e0, by rw [e1, h4], by rw [e2, h3], e3, e4⟩
/-- a scan in a block, its numbers spelled out -/
theorem AtScan.lit {w : World} {B g : Nat} {s : S} (h : AtScan w B g s) (i st wy : Int) (n np : Nat) (h1 : (s.id : Int) = i) (h2 : s.found.length = n) (h3 : s.passed.length = np) (h4 : (s.stop : Int) = st) (h5 : (s.why : Int) = wy) :
    B ≤ g ∧ ∃ lo Af cf Ap cp, ∃ q : List Fq, B ≤ lo ∧ w.heap[g]? = some (.cells #[.int .u32 i, .slice Af n cf, .slice Ap np cp, .int .i64 st, .int .i64 wy] 44 (0, 0)) ∧
      ScanV 56 w lo (.agg #[.int .u32 i, .slice Af n cf, .slice Ap np cp, .int .i64 st, .int .i64 wy]) s ∧ q.map (·.1) = s.found ∧ n ≤ cf ∧ cf ≤ maxLen ∧ w.ownsRow lo 56 9 (.slice Af n cf) n (rowF s.id q) ∧ (∀ x ∈ q, FqOk w lo x) := by
  obtain ⟨hg, lo, Af, cf, Ap, cp, hlo, hb, hs⟩ := h
  subst h1 h2 h3 h4 h5
  obtain ⟨Af', nf', cf', Ap', np', cp', q, e, hq, hn, hp, hf, e1, e2, e3, e4, o1, o2, o3⟩ := hs.open
  simp only [Value.agg.injEq, Array.mk.injEq, List.cons.injEq, Value.int.injEq, Value.slice.injEq, and_true, true_and] at e
  obtain ⟨⟨rfl, rfl, rfl⟩, ⟨rfl, rfl, rfl⟩⟩ := e
  exact ⟨hg, lo, Af, cf, Ap, cp, q, hlo, hb, hs, hq, e1, e2, o1, o2⟩
end Go.Proofs.YtaicibmaogiibaaGreatDoor.Sc

/- ScLaw -/

/-
  Layer 12: what the laws' walks share.
-/
set_option linter.unusedVariables false
set_option linter.unusedSimpArgs false
namespace Go.Proofs.YtaicibmaogiibaaGreatDoor.Sc
open Go Go.RowKit Go.Proofs.YtaicibmaogiibaaGreatDoor

theorem ScanV.lit2 {T : TypeId} {w : World} {lo : Nat} {v : Value} {s : S} (h : ScanV T w lo v s) (i st wy : Int) (n np : Nat) (h1 : (s.id : Int) = i) (h2 : s.found.length = n) (h3 : s.passed.length = np) (h4 : (s.stop : Int) = st) (h5 : (s.why : Int) = wy) :
    ∃ Af cf Ap cp, ∃ q : List Fq, v = .agg #[.int .u32 i, .slice Af n cf, .slice Ap np cp, .int .i64 st, .int .i64 wy] ∧ q.map (·.1) = s.found ∧ n ≤ cf ∧ w.ownsRow lo T 9 (.slice Af n cf) n (rowF s.id q) ∧ (∀ x ∈ q, FqOk w lo x) := by
  obtain ⟨Af, nf, cf, Ap, np', cp, q, e, hq, hn, hp, hf, e1, e2, e3, e4, o1, o3, o2⟩ := h.open
  subst h1 h2 h3 h4 h5
  subst hf hp
  exact ⟨Af, cf, Ap, cp, q, e, hq, e1, o1, o3⟩
end Go.Proofs.YtaicibmaogiibaaGreatDoor.Sc

/- ScLsQ -/

/-
  ScanLost, plain mathematics: what is found then, and what may be lost.
-/
set_option linter.unusedVariables false
set_option linter.unusedSimpArgs false
namespace Go.Proofs.YtaicibmaogiibaaGreatDoor.Sc
open Go.RowKit

/-- the number of the last of the k first -/
theorem lastOf_take {l : List Rc.Rec} {k : Nat} {r : Rc.Rec} (h : l[k]? = some r) (a : Int) : lastOf a (l.take (k + 1)) = r.seq := by
  rw [List.take_add_one, h, lastOf_append]
  rfl
theorem lastOf_all {l : List Rc.Rec} {r : Rc.Rec} {k : Nat} (h : l[k]? = some r) (hk : l.length = k + 1) (a : Int) : lastOf a l = r.seq := by
  have := lastOf_take h a
  rwa [List.take_of_length_le (by omega)] at this
theorem lastF_get2 {l : List Rc.Rec} (h : Up 0 l) (hne : l ≠ []) : ((lastF (places 16 l) : Nat) : Int) = lastOf 0 l := by
  have := lastOf_ge h
  rw [lastF_places l 16 0 hne, Int.toNat_of_nonneg (by omega)]
end Go.Proofs.YtaicibmaogiibaaGreatDoor.Sc

