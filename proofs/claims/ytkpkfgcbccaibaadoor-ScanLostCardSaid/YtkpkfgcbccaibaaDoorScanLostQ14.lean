/-
  ScanLost, part 14 of what the law's proof leans on: ScOf, ScFits, ScWhole, ScBetw.
-/
import Derived.Test.YtkpkfgcbccaibaaDoorScanLostQ13
import Derived.Test.YtkpkfgcbccaibaaDoorScanLostQ9
import Derived.Test.YtkpkfgcbccaibaaDoorScanLostQ12
import Derived.Test.YtkpkfgcbccaibaaDoorScanLostQ1
import Derived.Test.YtkpkfgcbccaibaaDoorScanLostQ6
/- ScOf -/

/-
  Layer 12: the landed scan of a segment's bytes.
-/
set_option linter.unusedVariables false
set_option linter.unusedSimpArgs false
namespace Go.Proofs.YtkpkfgcbccaibaaDoor.Sc
open Go Go.RowKit

/-- a step of the scan is a step of the document's way -/
theorem tk_go (id : Nat) (b : List UInt8) (s : S) (hid : s.id = id) (hw : s.why = 0) (hp : s.stop < b.length) (hm : s.stop ≤ 16777216) (hpos : ∀ f ∈ s.found, 0 ≤ f.r.seq) (hf : s.found.length + s.passed.length ≤ s.stop) (k : Nat) :
    ((tk s (b.drop s.stop)).why = 0 → go id b k (tk s (b.drop s.stop)).stop (lastF (tk s (b.drop s.stop)).found) (tk s (b.drop s.stop)).found (tk s (b.drop s.stop)).passed = go id b (k + 1) s.stop (lastF s.found) s.found s.passed) ∧
    ((tk s (b.drop s.stop)).why ≠ 0 → tk s (b.drop s.stop) = go id b (k + 1) s.stop (lastF s.found) s.found s.passed) ∧ (tk s (b.drop s.stop)).id = id ∧ (∀ f ∈ (tk s (b.drop s.stop)).found, 0 ≤ f.r.seq) ∧
    (tk s (b.drop s.stop)).found.length + (tk s (b.drop s.stop)).passed.length ≤ (tk s (b.drop s.stop)).stop ∧ ((tk s (b.drop s.stop)).why = 0 → s.stop < (tk s (b.drop s.stop)).stop ∧ (tk s (b.drop s.stop)).stop ≤ b.length) := by
  obtain ⟨⟨r, z, e⟩, hq⟩ : ∃ y, Rc.getQ (b.drop s.stop) = y := ⟨_, rfl⟩
  have hg := get_any hq
  subst hid
  have e2 : go s.id b (k + 1) s.stop (lastF s.found) s.found s.passed = if e = 22 then ⟨s.id, s.found, s.passed, s.stop, 22⟩ else if e = 0 then (if r.seq ≤ (lastF s.found : Int) then ⟨s.id, s.found, s.passed, s.stop, 23⟩ else go s.id b k (s.stop + z) r.seq (s.found ++ [⟨s.stop, z, r⟩]) s.passed) else if z = 0 then ⟨s.id, s.found, s.passed, s.stop, 23⟩ else go s.id b k (s.stop + z) (lastF s.found) s.found (s.passed ++ [s.stop]) := by
    conv => lhs; unfold go
    rw [hq, if_pos hp, if_neg (Nat.not_lt.2 hm)]
  have e1 : tk s (b.drop s.stop) = if e = 22 then { s with why := 22 } else if z = 0 ∨ (e = 0 ∧ r.seq ≤ (lastF s.found : Int)) then { s with why := 23 } else if e = 0 then { s with found := s.found ++ [⟨s.stop, z, r⟩], stop := s.stop + z } else { s with passed := s.passed ++ [s.stop], stop := s.stop + z } := by
    unfold tk
    rw [hq]
  have stay : ∀ y : Nat, y ≠ 0 → ((({ s with why := y } : S).why = 0 → go s.id b k ({ s with why := y } : S).stop (lastF ({ s with why := y } : S).found) ({ s with why := y } : S).found ({ s with why := y } : S).passed = ⟨s.id, s.found, s.passed, s.stop, y⟩) ∧
    (({ s with why := y } : S).why ≠ 0 → ({ s with why := y } : S) = ⟨s.id, s.found, s.passed, s.stop, y⟩) ∧ ({ s with why := y } : S).id = s.id ∧ (∀ f ∈ ({ s with why := y } : S).found, 0 ≤ f.r.seq) ∧
    ({ s with why := y } : S).found.length + ({ s with why := y } : S).passed.length ≤ ({ s with why := y } : S).stop ∧ (({ s with why := y } : S).why = 0 → s.stop < ({ s with why := y } : S).stop ∧ ({ s with why := y } : S).stop ≤ b.length)) := fun y hy =>
    ⟨fun h => absurd h hy, fun _ => rfl, rfl, hpos, hf, fun h => absurd h hy⟩
  rcases hg.1 with rfl | rfl | rfl
  · have hz := hg.2.2 rfl
    have hl := hg.2.1 (by decide) hz
    rw [List.length_drop] at hl
    have hs := get_seq hq
    rw [if_neg (by decide), if_pos rfl] at e2
    rw [if_neg (by decide)] at e1
    by_cases hsq : r.seq ≤ (lastF s.found : Int)
    · rw [if_pos hsq] at e2
      rw [if_pos (Or.inr ⟨rfl, hsq⟩)] at e1
      rw [e1, e2]
      exact stay 23 (by decide)
    · rw [if_neg hsq] at e2
      rw [if_neg (by rintro (h | ⟨_, h⟩) <;> contradiction), if_pos rfl] at e1
      rw [e1, e2]
      dsimp only
      have e : ((lastF (s.found ++ [⟨s.stop, z, r⟩]) : Nat) : Int) = r.seq := by rw [lastF_snoc]; exact Int.toNat_of_nonneg (by show 0 ≤ r.seq; omega)
      refine ⟨fun _ => by rw [e], fun h => absurd hw h, rfl, fun f hf => ?_, ?_, fun _ => ⟨by omega, by omega⟩⟩
      · rcases List.mem_append.1 hf with hf | hf
        · exact hpos f hf
        · rw [List.mem_singleton.1 hf]; show 0 ≤ r.seq; omega
      · rw [List.length_append]
        show s.found.length + 1 + s.passed.length ≤ _
        omega
  · rw [if_pos rfl] at e1 e2
    rw [e1, e2]
    exact stay 22 (by decide)
  · rw [if_neg (by decide)] at e1 e2
    rw [if_neg (by decide)] at e2
    by_cases hz : z = 0
    · rw [if_pos hz] at e2
      rw [if_pos (Or.inl hz)] at e1
      rw [e1, e2]
      exact stay 23 (by decide)
    · have hl := hg.2.1 (by decide) hz
      rw [List.length_drop] at hl
      rw [if_neg hz] at e2
      rw [if_neg (by rintro (h | ⟨h, _⟩); exact hz h; exact absurd h (by decide)), if_neg (by decide)] at e1
      rw [e1, e2]
      dsimp only
      refine ⟨fun _ => rfl, fun h => absurd hw h, rfl, hpos, ?_, fun _ => ⟨by omega, by omega⟩⟩
      rw [List.length_append]
      show s.found.length + (s.passed.length + 1) ≤ _
      omega
theorem cut_o (A : Option Addr) (n c k r : Nat) (hn : n = k + r) (hnc : n ≤ c) (hr0 : 0 < r) : ∃ A' c', Option.map (fun x => x.add k) A = A' ∧ c - k = c' ∧ r ≤ c' ∧ ∀ w B l, l.length ≤ c → Rd w B A (bvs l) → Rd w B A' (bvs (l.drop k)) := by
  refine ⟨_, _, rfl, rfl, by omega, fun w B l hl hr => ?_⟩
  have := hr.cut (k := k) (cap := c) (by rw [bvs_length]; exact hl)
  rw [if_neg (by omega), ← bvs_drop] at this
  exact this
/-- what stands at the loop's head -/
def OfR (w wr : World) (id : Nat) (b : List UInt8) (br B k : Nat) : Prop :=
  ∃ s, ScanB wr w.heap.size B s ∧ Below w.heap.size w wr ∧ wr.heap[br]? = some (.cells #[.int .u32 0, .slice none 0 0, .slice none 0 0, .int .i64 0, .int .i64 0] 31 (0, 0)) ∧ s.id = id ∧ (s.why = 0 → go id b k s.stop (lastF s.found) s.found s.passed = of id b ∧ s.stop ≤ b.length + 16 ∧ b.length < s.stop + k) ∧
    (s.why ≠ 0 → s = of id b) ∧ (∀ f ∈ s.found, 0 ≤ f.r.seq) ∧ s.found.length + s.passed.length ≤ s.stop
/-- the result is stored, and told -/
theorem of_fin {w wr : World} {br B : Nat} {s : S} {q : List Fq} {Af Ap : Option Addr} {nf cf np cp i0 i3 i4 : Nat} (h : TkI wr w.heap.size B s q Af nf cf Ap np cp) (e : s.id = i0 ∧ s.stop = i3 ∧ s.why = i4) (hb : Below w.heap.size w wr) (hbr : w.heap.size ≤ br) (hne : br ≠ B)
    {arr : Array Value} (hr : wr.heap[br]? = some (.cells arr 31 (0, 0))) {X : World} (hc : Chg (fun i => i = br) wr X) :
    ScanV 52 X w.heap.size (.agg #[.int .u32 (i0 : Int), .slice Af nf cf, .slice Ap np cp, .int .i64 (i3 : Int), .int .i64 (i4 : Int)]) s ∧ Below w.heap.size w X := by
  obtain ⟨rfl, rfl, rfl⟩ := e
  have hty : Typed wr 31 (fun i => i = br) := fun g e => by obtain rfl : g = br := e; exact ⟨_, _, hr⟩
  have hn := h.hn
  have hp := h.hp
  exact ⟨⟨_, _, q, rfl, h.hq, by rw [hn]; exact hty.own (by decide) hc h.own, fun x hx => (h.ok x hx).apart hty (by decide) hc, by rw [hp]; exact hty.own (by decide) hc h.pown⟩, hb.trans (hc.below hb.size (fun i e => by obtain rfl : i = br := e; exact hbr))⟩
set_option maxRecDepth 100000 in
set_option maxHeartbeats 16000000 in
theorem sof (v : Value) (b : List UInt8) (id : Nat) (w : World) (h : Bs w w.heap.size v b) (hm : b.length ≤ 100000) (hid : id < 4294967296) (ht : RTab w) :
    Calls Tryd.prog 7 #[.int .u32 (id : Int), v] w fun e w' => ∃ rv, e = .returned rv ∧ ScanV 52 w' w.heap.size rv (of id b) ∧ Below w.heap.size w w' := by
  have h0 := h
  obtain ⟨Av, cv, rfl, hcv, hrd⟩ := h0
  clear hrd
  obtain ⟨n, hn⟩ : ∃ n, n = b.length := ⟨_, rfl⟩
  obtain ⟨q0, hq0⟩ : ∃ q0, Hd.checkN b 1 id = q0 := ⟨_, rfl⟩
  obtain ⟨br, hbr⟩ : ∃ br, w.heap.size = br := ⟨_, rfl⟩
  obtain ⟨W, hW⟩ : ∃ W, w.alloc (.cells #[.int .u32 0, .slice none 0 0, .slice none 0 0, .int .i64 0, .int .i64 0] 31) = W := ⟨_, rfl⟩
  have hb : Below w.heap.size w W := by rw [← hW]; exact (Below.refl _ _).alloc (Nat.le_refl _) _
  have hk : W.heap[br]? = some (.cells #[.int .u32 0, .slice none 0 0, .slice none 0 0, .int .i64 0, .int .i64 0] 31 (0, 0)) := by rw [← hW, ← hbr]; exact heap_alloc_new w _
  have HC := Lib.hid (Hd.check_any (.slice Av b.length cv) b w.heap.size 1 (id : Int) W (h.below hb (Nat.le_refl _)) hb.size (by omega) (ht.on hb).1 q0 hq0)
  have HN := Lib.hid hn
  have H := Lib.hid h
  have HB := Lib.hid hb
  have HBR := Lib.hid hbr
  have HK := Lib.hid hk
  have HQ0 := Lib.hid hq0
  have HM := Lib.hid hm
  have HT := Lib.hid ht
  rw [← hn] at hcv HC ⊢
  clear h hb hm hq0 hk hn ht
  go_enter Tryd.func7, Tryd.ntmps7
  go_wp2_with fail
  refine HC.out.mono ?_
  rintro e w1 ⟨rfl, hb1⟩
  obtain ⟨B, hB⟩ : ∃ B, w1.heap.size = B := ⟨_, rfl⟩
  obtain ⟨W2, hW2⟩ : ∃ W2, w1.alloc (.cells #[.int .u32 (id : Int), .slice none 0 0, .slice none 0 0, .int .i64 0, .int .i64 (q0 : Int)] 31) = W2 := ⟨_, rfl⟩
  have hb2 : Below w1.heap.size w1 W2 := by rw [← hW2]; exact (Below.refl _ _).alloc (Nat.le_refl _) _
  have hs2 : W2.heap[B]? = some (.cells #[.int .u32 (id : Int), .slice none 0 0, .slice none 0 0, .int .i64 0, .int .i64 (q0 : Int)] 31 (0, 0)) := by rw [← hW2, ← hB]; exact heap_alloc_new w1 _
  have hr1 := (hb1.block br (Array.getElem?_eq_some_iff.1 HK.out).1).trans HK.out
  have hr2 := (hb2.block br (Array.getElem?_eq_some_iff.1 hr1).1).trans hr1
  have hbw2 : Below w.heap.size w W2 := (HB.out.trans (hb1.mono HB.out.size)).trans (hb2.mono (Nat.le_trans HB.out.size hb1.size))
  have HNE := Lib.hid (show br < B by rw [← hB]; exact (Array.getElem?_eq_some_iff.1 hr1).1)
  obtain ⟨y0, y1, y2, y3, y4⟩ := rw5 hs2
  obtain ⟨g0, g1, g2, g3, g4⟩ := rw5f hs2
  have HBW := Lib.hid hbw2
  have HSR := Lib.hid (And.intro hs2 hr2)
  have hI0 : TkI W2 w.heap.size B ⟨id, [], [], 0, q0⟩ [] none 0 0 none 0 0 := ⟨hs2, rfl, rfl, rfl, World.ownsRow_nil _ _ _ _, by simp, World.ownsRow_nil _ _ _ _⟩
  have HI0 := Lib.hid hI0
  clear hb1 hb2 hs2 hr1 hr2 hbw2 hI0 HC HK
  by_cases hz : q0 = 0
  · have j0 : ((q0 : Int) != 0) = false := by rw [hz]; rfl
    have j1 : decide ((q0 : Int) = 0) = true := by rw [hz]; rfl
    have hs3 := Go.Joins.block_setCell (i := 3) HSR.out.1 (.int .i64 16)
    have hs3 : _ = some (Obj.cells #[.int .u32 (id : Int), .slice none 0 0, .slice none 0 0, .int .i64 16, .int .i64 (q0 : Int)] 31 (0, 0)) := hs3
    have hR0 : Hid (OfR w (W2.setCell ⟨B, 3, none⟩ (.int .i64 16)) id b br B (n + 1)) := Lib.hid ⟨⟨id, [], [], 16, q0⟩, ⟨none, 0, 0, none, 0, 0, [], hs3, rfl, rfl, rfl, World.ownsRow_nil _ _ _ _, by simp, World.ownsRow_nil _ _ _ _⟩,
      HBW.out.setCell (by show w.heap.size ≤ B; have := HNE.out; have := HBR.out; omega) _, ((chg1 W2 B 3 (.int .i64 16)).block br (Array.getElem?_eq_some_iff.1 HSR.out.2).1 (by have := HNE.out; omega)).trans HSR.out.2, rfl, fun _ => ⟨by rw [of, HQ0.out, if_pos hz, HN.out]; rfl, by simp, by simp only; rw [HN.out]; omega⟩, fun h => absurd hz h, by simp, by simp⟩
    clear hz
    clear hs3
    go_wp2_with fail
    go_loopg [] (n + 1) (fun k wr => Hid (OfR w wr id b br B k))
    case atStart => exact hR0
    case round =>
      rename World => wr
      clear hR0 y0 y1 y2 y3 y4 g0 g1 g2 g3 g4 j0 j1
      obtain ⟨s, hS, hbw, hrb, hsid, hgo, hne, hpos, hfew⟩ := hrel.out
      clear hrel
      obtain ⟨q, Af, nf, cf, Ap, np, cp, hI⟩ := hS.open
      obtain ⟨i3, hi3⟩ : ∃ i3, s.stop = i3 := ⟨_, rfl⟩
      obtain ⟨i4, hi4⟩ : ∃ i4, s.why = i4 := ⟨_, rfl⟩
      obtain ⟨y0, y1, y2, y3, y4⟩ := rw5 (hI.blk' hsid hi3 hi4)
      obtain ⟨g0, g1, g2, g3, g4⟩ := rw5f (hI.blk' hsid hi3 hi4)
      by_cases h4 : i4 = 0
      · subst h4
        rw [show ((0 : Nat) : Int) = 0 from rfl] at *
        obtain ⟨hg1, hg2, hg3⟩ := hgo hi4
        by_cases h3 : i3 < n
        · obtain ⟨k, rfl⟩ : ∃ k, gk = k + 1 := ⟨gk - 1, by have := HN.out; omega⟩
          obtain ⟨r, hr⟩ : ∃ r, n = i3 + r := ⟨n - i3, by omega⟩
          obtain ⟨A2, c2, hA2, hc2, hbs2⟩ := cut_o Av n cv i3 r hr hcv (by omega)
          have hn100 : n ≤ 100000 := by rw [HN.out]; exact HM.out
          have hbs3 : Bs wr w.heap.size (.slice A2 r c2) (b.drop i3) := by
            obtain ⟨A, c, e, hc, hrd⟩ := H.out.below hbw (Nat.le_refl _)
            injection e with e1 _ e3
            subst e1
            subst e3
            have hl := HN.out
            exact ⟨A2, c2, by rw [List.length_drop, ← hl, hr, Nat.add_sub_cancel_left], by rw [List.length_drop, ← hl]; have := hbs2.1; omega, hbs2.2 _ _ b hc hrd⟩
          have htg := tk_go id b s hsid hi4 (by rw [hi3, ← HN.out]; exact h3) (by rw [hi3]; omega) hpos hfew k
          rw [hi3] at htg
          have HTk := Lib.hid (stake hS (by have := HNE.out; have := HBR.out; omega) hbw.size hbs3 (HT.out.on hbw) (by rw [List.length_drop, ← HN.out]; omega) (by rw [hi3]; omega) (by rw [hi3] at hfew; omega) hpos)
          have HG := Lib.hid htg
          have HG1 := Lib.hid hg1
          rw [hi3] at hg3
          have HG3 := Lib.hid hg3
          have HR := Lib.hid (And.intro hbw (And.intro hrb hi3))
          have i1 : (i3 : Int) < (n : Int) := by omega
          have hnr : n - i3 = r := by omega
          clear hr
          clear hI hS hbw hrb hsid hgo hne hpos hfew hg1 hg2 hg3 htg hbs3 hbs2 hi3 hi4
          go_wp2_with fail
          refine HTk.out.mono ?_
          rintro e' w2 ⟨⟨u, rfl⟩, hS2, hb2, hk2⟩
          go_wp2_with fail
          go_roundg k
          case measure => omega
          case rel =>
            obtain ⟨t1, t2, t3, t4, t5, t6⟩ := HG.out
            have hg1 := HG1.out
            rw [HR.out.2.2] at hg1
            exact Lib.hid ⟨tk s (b.drop i3), hS2, HR.out.1.trans hb2, hk2 br _ _ (by have := HNE.out; omega) HR.out.2.1, t3, fun h => ⟨(t1 h).trans hg1, by have := (t6 h).2; omega, by have := (t6 h).1; have := HG3.out; omega⟩, fun h => (t2 h).trans hg1, t4, t5⟩
        · have i1 : ¬ (i3 : Int) < (n : Int) := by omega
          have hof : s = of id b := by
            rw [← hg1]
            obtain ⟨sid, sf, sp, st, sw⟩ := s
            simp only at hsid hi3 hi4
            subst hsid hi3 hi4
            cases gk with
            | zero => rfl
            | succ k => unfold go; rw [if_neg (by rw [← HN.out]; exact h3)]
          have HI := Lib.hid hI
          have HR := Lib.hid (And.intro hbw hrb)
          obtain ⟨x0, x1, x2, x3, x4⟩ := rw5 hrb
          obtain ⟨d0, d1, d2, d3, d4⟩ := rw5f hrb
          have HO := Lib.hid hof
          have HSS := Lib.hid (And.intro hsid (And.intro hi3 hi4))
          clear hI hbw hrb hof hsid hi3 hi4 hgo hne hpos hfew hS
          go_wp2_with fail
          have hX := set5_at HR.out.2 (.int .u32 (id : Int)) (.slice Af nf cf) (.slice Ap np cp) (.int .i64 (i3 : Int)) (.int .i64 0)
          obtain ⟨z0, z1, z2, z3, z4⟩ := rw5 hX
          unfold set5 at z0 z1 z2 z3 z4
          have hf := of_fin HI.out HSS.out HR.out.1 (by rw [HBR.out]; exact Nat.le_refl _) (by have := HNE.out; omega) HR.out.2 (set5_chg wr br (.int .u32 (id : Int)) (.slice Af nf cf) (.slice Ap np cp) (.int .i64 (i3 : Int)) (.int .i64 0))
          rw [← HO.out]
          rw [HBR.out] at hf
          exact bodyPost_ret (v := .agg #[.int .u32 (id : Int), .slice Af nf cf, .slice Ap np cp, .int .i64 (i3 : Int), .int .i64 0]) (by simp [results, Tryd.results7, go_sem, z0, z1, z2, z3, z4]) rfl ⟨_, rfl, hf.1, hf.2⟩
      · have j0 : ¬ (i4 : Int) = 0 := by omega
        have hof : s = of id b := hne (by rw [hi4]; exact h4)
        have HI := Lib.hid hI
        have HR := Lib.hid (And.intro hbw hrb)
        obtain ⟨x0, x1, x2, x3, x4⟩ := rw5 hrb
        obtain ⟨d0, d1, d2, d3, d4⟩ := rw5f hrb
        have HO := Lib.hid hof
        have HSS := Lib.hid (And.intro hsid (And.intro hi3 hi4))
        clear hI hbw hrb hof hsid hi3 hi4 hgo hne hpos hfew hS
        go_wp2_with fail
        have hX := set5_at HR.out.2 (.int .u32 (id : Int)) (.slice Af nf cf) (.slice Ap np cp) (.int .i64 (i3 : Int)) (.int .i64 (i4 : Int))
        obtain ⟨z0, z1, z2, z3, z4⟩ := rw5 hX
        unfold set5 at z0 z1 z2 z3 z4
        have hf := of_fin HI.out HSS.out HR.out.1 (by rw [HBR.out]; exact Nat.le_refl _) (by have := HNE.out; omega) HR.out.2 (set5_chg wr br (.int .u32 (id : Int)) (.slice Af nf cf) (.slice Ap np cp) (.int .i64 (i3 : Int)) (.int .i64 (i4 : Int)))
        rw [← HO.out]
        exact bodyPost_ret (v := .agg #[.int .u32 (id : Int), .slice Af nf cf, .slice Ap np cp, .int .i64 (i3 : Int), .int .i64 (i4 : Int)]) (by simp [results, Tryd.results7, go_sem, z0, z1, z2, z3, z4]) rfl ⟨_, rfl, hf.1, hf.2⟩
  · have i0 : ¬ (q0 : Int) = 0 := by omega
    have j0 : ((q0 : Int) != 0) = true := by simpa using hz
    obtain ⟨x0, x1, x2, x3, x4⟩ := rw5 HSR.out.2
    obtain ⟨d0, d1, d2, d3, d4⟩ := rw5f HSR.out.2
    go_wp2_with fail
    have hX := set5_at HSR.out.2 (.int .u32 (id : Int)) (.slice none 0 0) (.slice none 0 0) (.int .i64 0) (.int .i64 (q0 : Int))
    obtain ⟨z0, z1, z2, z3, z4⟩ := rw5 hX
    unfold set5 at z0 z1 z2 z3 z4
    have hf := of_fin HI0.out ⟨rfl, rfl, rfl⟩ HBW.out (by rw [HBR.out]; exact Nat.le_refl _) (by have := HNE.out; omega) HSR.out.2 (set5_chg W2 br (.int .u32 (id : Int)) (.slice none 0 0) (.slice none 0 0) (.int .i64 0) (.int .i64 (q0 : Int)))
    have ho : of id b = ⟨id, [], [], 0, q0⟩ := by rw [of, HQ0.out, if_neg hz]
    rw [ho]
    exact bodyPost_ret (v := .agg #[.int .u32 (id : Int), .slice none 0 0, .slice none 0 0, .int .i64 0, .int .i64 (q0 : Int)]) (by simp [results, Tryd.results7, go_sem, z0, z1, z2, z3, z4]) rfl ⟨_, rfl, hf.1, hf.2⟩
end Go.Proofs.YtkpkfgcbccaibaaDoor.Sc

/- ScFits -/

/-
  Layer 12: the landed scan: whether it fits a seal, whether it is whole by it, where its places come from.
-/
set_option linter.unusedVariables false
set_option linter.unusedSimpArgs false
namespace Go.Proofs.YtkpkfgcbccaibaaDoor.Sc
open Go Go.RowKit

/-- numbers that fit a seal's kinds -/
def Sl.Fits (x : Sl) : Prop := x.id < 4294967296 ∧ x.size < 4294967296 ∧ x.many < 4294967296 ∧ x.first < 18446744073709551616 ∧ x.last < 18446744073709551616
section
variable {w : World} {g : Nat} {x : Sl} {T : TypeId}
end
set_option maxRecDepth 100000 in
set_option maxHeartbeats 4000000 in
/-- within the seal's numbers -/
theorem swithin {w : World} {g : Nat} {a1 a2 a3 : Value} {f l n : Nat} {T : TypeId} (h : w.heap[g]? = some (.cells #[a1, a2, a3, .int .u64 (f : Int), .int .u64 (l : Int)] T (0, 0))) :
    Calls Tryd.prog 37 #[.int .u64 (n : Int), .pointer (some ⟨g, 0, none⟩)] w fun e w' => e = .returned (.bool (decide (f ≤ n ∧ n ≤ l))) ∧ w = w' := by
  obtain ⟨y0, y1, y2, y3, y4⟩ := rw5 h
  clear h
  go_enter Tryd.func37, Tryd.ntmps37
  by_cases h1 : f ≤ n
  · have j1 : (f : Int) ≤ (n : Int) := by omega
    by_cases h2 : n ≤ l
    · have j2 : (n : Int) ≤ (l : Int) := by omega
      rw [decide_eq_true (show f ≤ n ∧ n ≤ l from ⟨h1, h2⟩)]
      go_wp2_with fail
      go_ret
      exact ⟨rfl, rfl⟩
    · have j2 : ¬ (n : Int) ≤ (l : Int) := by omega
      rw [decide_eq_false (show ¬ (f ≤ n ∧ n ≤ l) from fun h => h2 h.2)]
      go_wp2_with fail
      go_ret
      exact ⟨rfl, rfl⟩
  · have j1 : ¬ (f : Int) ≤ (n : Int) := by omega
    rw [decide_eq_false (show ¬ (f ≤ n ∧ n ≤ l) from fun h => h1 h.1)]
    go_wp2_with fail
    go_ret
    exact ⟨rfl, rfl⟩
set_option maxRecDepth 100000 in
set_option maxHeartbeats 8000000 in
theorem sfits {w : World} {lo : Nat} {v : Value} {s : S} {x : Sl} (h : ScanV 52 w lo v s) (hid : s.id < 4294967296) (hst : s.stop < 4294967296) (hm : s.found.length + s.passed.length ≤ 1000000) (hpos : ∀ f ∈ s.found, 0 ≤ f.r.seq) :
    Calls Tryd.prog 23 #[v, x.val] w fun e w' => e = .returned (.bool (fitsL s x)) ∧ Below w.heap.size w w' := by
  have HS := Lib.hid (fun (V : World) (hb : Below w.heap.size w V) => sseal12 (h.on hb) hid hst hm hpos)
  obtain ⟨vf, vp, q, rfl, _, _, _, _⟩ := h
  obtain ⟨bx, hbx⟩ : ∃ bx, w.heap.size = bx := ⟨_, rfl⟩
  obtain ⟨W1, hW1⟩ : ∃ W1, w.alloc (.cells #[.int .u32 (s.id : Int), vf, vp, .int .i64 (s.stop : Int), .int .i64 (s.why : Int)] 31) = W1 := ⟨_, rfl⟩
  obtain ⟨W, hW⟩ : ∃ W, W1.alloc (.cells #[.int .u32 (x.id : Int), .int .u32 (x.size : Int), .int .u32 (x.many : Int), .int .u64 (x.first : Int), .int .u64 (x.last : Int)] 26) = W := ⟨_, rfl⟩
  have hs1 : W1.heap.size = bx + 1 := by rw [← hW1, ← hbx]; simp
  have hb1 : Below w.heap.size w W1 := by rw [← hW1]; exact (Below.refl _ _).alloc (Nat.le_refl _) _
  have hb2 : Below W1.heap.size W1 W := by rw [← hW]; exact (Below.refl _ _).alloc (Nat.le_refl _) _
  have k1 : W1.heap[bx]? = some (.cells #[.int .u32 (s.id : Int), vf, vp, .int .i64 (s.stop : Int), .int .i64 (s.why : Int)] 31 (0, 0)) := by rw [← hW1, ← hbx]; exact heap_alloc_new w _
  have k2 : W.heap[bx + 1]? = some (.cells #[.int .u32 (x.id : Int), .int .u32 (x.size : Int), .int .u32 (x.many : Int), .int .u64 (x.first : Int), .int .u64 (x.last : Int)] 26 (0, 0)) := by rw [← hW, ← hs1]; exact heap_alloc_new W1 _
  have k1' := (hb2.block bx (by omega)).trans k1
  have hbW : Below w.heap.size w W := hb1.trans (hb2.mono hb1.size)
  have HK := Lib.hid k2
  have HB := Lib.hid hbW
  have HX := Lib.hid hbx
  have HS2 := Lib.hid (HS.out W hbW)
  obtain ⟨y0, y1, y2, y3, y4⟩ := rw5 k1'
  obtain ⟨fs, hfs⟩ : ∃ fs, fs = firstOf s.found := ⟨_, rfl⟩
  obtain ⟨ls, hls⟩ : ∃ ls, ls = lastF s.found := ⟨_, rfl⟩
  obtain ⟨m, hmm⟩ : ∃ m, m = s.found.length + s.passed.length := ⟨_, rfl⟩
  have hsv : (seal_ s).val = .agg #[.int .u32 (s.id : Int), .int .u32 (s.stop : Int), .int .u32 (m : Int), .int .u64 (fs : Int), .int .u64 (ls : Int)] := by rw [hmm, hfs, hls]; rfl
  rw [hsv] at HS2
  have HF := Lib.hid (show fitsL s x = (decide (s.id = x.id) && decide (x.first ≤ fs ∧ fs ≤ x.last) && decide (x.first ≤ ls ∧ ls ≤ x.last)) by
    rw [hfs, hls]
    unfold fitsL
    by_cases c1 : s.id = x.id
    · by_cases c2 : x.first ≤ firstOf s.found ∧ firstOf s.found ≤ x.last
      · by_cases c3 : x.first ≤ lastF s.found ∧ lastF s.found ≤ x.last
        · rw [decide_eq_true c1, decide_eq_true c2, decide_eq_true c3, decide_eq_true ⟨c1, c2, c3⟩]; rfl
        · rw [decide_eq_true c1, decide_eq_true c2, decide_eq_false c3, decide_eq_false (fun h => c3 h.2.2)]; rfl
      · rw [decide_eq_false c2, decide_eq_false (fun h => c2 h.2.1)]; simp
    · rw [decide_eq_false c1, decide_eq_false (fun h => c1 h.1)]; simp)
  clear HS hb1 hb2 k1 k2 k1' hbW hfs hls hmm hsv hm hpos
  obtain ⟨xi, xs, xm, xf, xl⟩ := x
  simp only [Sl.val] at *
  generalize s.id = i0 at *
  generalize s.stop = i3 at *
  generalize s.why = i4 at *
  generalize fitsL s ⟨xi, xs, xm, xf, xl⟩ = R at *
  go_enter Tryd.func23, Tryd.ntmps23
  go_wp2_with fail
  refine HS2.out.mono ?_
  rintro e w1 ⟨rfl, hbn⟩
  obtain ⟨g, hg⟩ : ∃ g, w1.heap.size = g := ⟨_, rfl⟩
  obtain ⟨W2, hW2⟩ : ∃ V, w1.alloc (.cells #[.int .u32 (i0 : Int), .int .u32 (i3 : Int), .int .u32 (m : Int), .int .u64 (fs : Int), .int .u64 (ls : Int)] 26) = V := ⟨_, rfl⟩
  have hbm : Below w1.heap.size w1 W2 := by rw [← hW2]; exact (Below.refl _ _).alloc (Nat.le_refl _) _
  have hg2 : W2.heap[g]? = some (.cells #[.int .u32 (i0 : Int), .int .u32 (i3 : Int), .int .u32 (m : Int), .int .u64 (fs : Int), .int .u64 (ls : Int)] 26 (0, 0)) := by rw [← hW2, ← hg]; exact heap_alloc_new w1 _
  have k1 := (hbn.block (bx + 1) (Array.getElem?_eq_some_iff.1 HK.out).1).trans HK.out
  have k2 := (hbm.block (bx + 1) (Array.getElem?_eq_some_iff.1 k1).1).trans k1
  have HB2 := Lib.hid ((HB.out.trans (hbn.mono HB.out.size)).trans (hbm.mono (Nat.le_trans HB.out.size hbn.size)))
  have HW1 := Lib.hid (swithin (n := fs) k2)
  have HW2 := Lib.hid (swithin (n := ls) k2)
  obtain ⟨z0, z1, z2, z3, z4⟩ := rw5 hg2
  obtain ⟨x0, x1, x2, x3, x4⟩ := rw5 k2
  clear hbn hbm hg2 k1 k2 HK HB HS2 y0 y1 y2 y3 y4
  by_cases c1 : i0 = xi
  · subst c1
    rw [decide_eq_true rfl, Bool.true_and] at HF
    by_cases c2 : xf ≤ fs ∧ fs ≤ xl
    · rw [decide_eq_true c2] at HF HW1
      rw [Bool.true_and] at HF
      rw [← HF.out] at HW2
      clear c2
      go_wp2_with fail
      refine HW1.out.mono ?_
      rintro e w4 ⟨rfl, rfl⟩
      go_wp2_with fail
      refine HW2.out.mono ?_
      rintro e w5 ⟨rfl, rfl⟩
      go_wp2_with fail
      go_ret
      exact ⟨rfl, HB2.out⟩
    · rw [decide_eq_false c2] at HF HW1
      rw [Bool.false_and] at HF
      clear c2
      go_wp2_with fail
      refine HW1.out.mono ?_
      rintro e w4 ⟨rfl, rfl⟩
      go_wp2_with fail
      go_ret
      exact ⟨by rw [HF.out]; rfl, HB2.out⟩
  · rw [decide_eq_false c1, Bool.false_and, Bool.false_and] at HF
    have j1 : ¬ (i0 : Int) = (xi : Int) := by omega
    clear c1
    go_wp2_with fail
    go_ret
    exact ⟨by rw [HF.out]; rfl, HB2.out⟩
end Go.Proofs.YtkpkfgcbccaibaaDoor.Sc

/- ScWhole -/

/-
  Layer 12: the landed scan: whether it came to the end that a seal tells; its places' maker.
-/
set_option linter.unusedVariables false
set_option linter.unusedSimpArgs false
namespace Go.Proofs.YtkpkfgcbccaibaaDoor.Sc
open Go Go.RowKit

theorem s55 {V : World} {B C : Nat} {a0 a1 a2 a3 a4 b0 b1 b2 b3 b4 : Value} (h : V.cell? ⟨B, 0, none⟩ = some a0 ∧ V.cell? ⟨B, 1, none⟩ = some a1 ∧ V.cell? ⟨B, 2, none⟩ = some a2 ∧ V.cell? ⟨B, 3, none⟩ = some a3 ∧ V.cell? ⟨B, 4, none⟩ = some a4)
    (k : V.cell? ⟨C, 0, none⟩ = some b0 ∧ V.cell? ⟨C, 1, none⟩ = some b1 ∧ V.cell? ⟨C, 2, none⟩ = some b2 ∧ V.cell? ⟨C, 3, none⟩ = some b3 ∧ V.cell? ⟨C, 4, none⟩ = some b4) :
    V.cell? ⟨B, 0, none⟩ = some a0 ∧ V.cell? ⟨B, 1, none⟩ = some a1 ∧ V.cell? ⟨B, 2, none⟩ = some a2 ∧ V.cell? ⟨B, 3, none⟩ = some a3 ∧ V.cell? ⟨B, 4, none⟩ = some a4 ∧ V.cell? ⟨C, 0, none⟩ = some b0 ∧ V.cell? ⟨C, 1, none⟩ = some b1 ∧ V.cell? ⟨C, 2, none⟩ = some b2 ∧ V.cell? ⟨C, 3, none⟩ = some b3 ∧ V.cell? ⟨C, 4, none⟩ = some b4 :=
  ⟨h.1, h.2.1, h.2.2.1, h.2.2.2.1, h.2.2.2.2, k⟩
theorem splaces (v0 v1 v2 v3 v4 : Value) (w : World) : Calls Tryd.prog 24 #[.agg #[v0, v1, v2, v3, v4]] w fun e w' => e = .returned (.func (.func 38) #[] #[.pointer (some ⟨w.heap.size, 0, none⟩)]) ∧ w' = w.alloc (.cells #[v0, v1, v2, v3, v4] 31) := by
  go_enter Tryd.func24, Tryd.ntmps24
  go_wp2
  go_ret
  exact ⟨rfl, rfl⟩
set_option maxRecDepth 100000 in
set_option maxHeartbeats 16000000 in
theorem swhole {w : World} {lo : Nat} {v : Value} {s : S} {x : Sl} (h : ScanV 52 w lo v s) (hid : s.id < 4294967296) (hst : s.stop < 4294967296) (hm : s.found.length + s.passed.length ≤ 1000000) (hpos : ∀ f ∈ s.found, 0 ≤ f.r.seq) (hxs : x.size < 4294967296) :
    Calls Tryd.prog 25 #[v, x.val] w fun e w' => e = .returned (.bool (wholeL s x)) ∧ Below w.heap.size w w' := by
  have HS := Lib.hid (fun (V : World) (hb : Below w.heap.size w V) => sseal12 (h.on hb) hid hst hm hpos)
  obtain ⟨Af, n, cf, Ap, np, cp, q, rfl, _, _, _, _, _, _, _, _, _, _, _⟩ := h.open
  obtain ⟨bx, hbx⟩ : ∃ bx, w.heap.size = bx := ⟨_, rfl⟩
  obtain ⟨W1, hW1⟩ : ∃ W1, w.alloc (.cells #[.int .u32 (s.id : Int), .slice Af n cf, .slice Ap np cp, .int .i64 (s.stop : Int), .int .i64 (s.why : Int)] 31) = W1 := ⟨_, rfl⟩
  obtain ⟨W, hW⟩ : ∃ W, W1.alloc (.cells #[.int .u32 (x.id : Int), .int .u32 (x.size : Int), .int .u32 (x.many : Int), .int .u64 (x.first : Int), .int .u64 (x.last : Int)] 26) = W := ⟨_, rfl⟩
  have hs1 : W1.heap.size = bx + 1 := by rw [← hW1, ← hbx]; simp
  have hb1 : Below w.heap.size w W1 := by rw [← hW1]; exact (Below.refl _ _).alloc (Nat.le_refl _) _
  have hb2 : Below W1.heap.size W1 W := by rw [← hW]; exact (Below.refl _ _).alloc (Nat.le_refl _) _
  have k1 : W1.heap[bx]? = some (.cells #[.int .u32 (s.id : Int), .slice Af n cf, .slice Ap np cp, .int .i64 (s.stop : Int), .int .i64 (s.why : Int)] 31 (0, 0)) := by rw [← hW1, ← hbx]; exact heap_alloc_new w _
  have k2 : W.heap[bx + 1]? = some (.cells #[.int .u32 (x.id : Int), .int .u32 (x.size : Int), .int .u32 (x.many : Int), .int .u64 (x.first : Int), .int .u64 (x.last : Int)] 26 (0, 0)) := by rw [← hW, ← hs1]; exact heap_alloc_new W1 _
  have k1' := (hb2.block bx (by omega)).trans k1
  have HK := Lib.hid (And.intro k1' k2)
  have HB := Lib.hid (hb1.trans (hb2.mono hb1.size))
  have HX := Lib.hid hbx
  obtain ⟨fs, hfs⟩ : ∃ fs, fs = firstOf s.found := ⟨_, rfl⟩
  obtain ⟨ls, hls⟩ : ∃ ls, ls = lastF s.found := ⟨_, rfl⟩
  obtain ⟨m, hsm⟩ : ∃ m, m = s.found.length + s.passed.length := ⟨_, rfl⟩
  have hsv : (seal_ s).val = .agg #[.int .u32 (s.id : Int), .int .u32 (s.stop : Int), .int .u32 (m : Int), .int .u64 (fs : Int), .int .u64 (ls : Int)] := by rw [hsm, hfs, hls]; rfl
  rw [hsv] at HS
  obtain ⟨xi, xs, xm, xf, xl⟩ := x
  have HWL := Lib.hid (show wholeL s ⟨xi, xs, xm, xf, xl⟩ = (decide (s.why = 0) && (decide (s.stop = xs) && decide (m = xm))) by
    rw [hsm]
    unfold wholeL
    by_cases c1 : s.why = 0
    · by_cases c2 : s.stop = xs
      · by_cases c3 : s.found.length + s.passed.length = xm
        · rw [decide_eq_true c1, decide_eq_true c2, decide_eq_true c3, decide_eq_true ⟨c1, c2, c3⟩]; rfl
        · rw [decide_eq_true c1, decide_eq_true c2, decide_eq_false c3, decide_eq_false (fun h => c3 h.2.2)]; rfl
      · rw [decide_eq_false c2, decide_eq_false (fun h => c2 h.2.1)]; simp
    · rw [decide_eq_false c1, decide_eq_false (fun h => c1 h.1)]; simp)
  have hwx : IntKind.i64.wrap (xs : Int) = (xs : Int) := IntWalk.i64_in _ (by simp only at hxs; omega)
  have hfd : ∀ (a b d e : Value) (w : World), (Instr.field 26 (.agg #[a, b, .int .u32 (m : Int), d, e]) 2).run Tryd.prog w = .ok (.int .u32 (m : Int)) w := fun _ _ _ _ _ => by rfl
  clear hxs
  have HL := HS
  simp only [Sl.val] at *
  clear h hb1 hb2 k1 k2 k1' hfs hls hsv hm hpos HS hsm
  generalize s.id = i0 at *
  generalize s.stop = i3 at *
  generalize s.why = i4 at *
  generalize wholeL s ⟨xi, xs, xm, xf, xl⟩ = R at *
  by_cases h4 : i4 = 0
  · subst h4
    rw [show ((0 : Nat) : Int) = 0 from rfl] at HL HK hW1
    rw [decide_eq_true rfl, Bool.true_and] at HWL
    by_cases h3 : i3 = xs
    · rw [decide_eq_true h3, Bool.true_and] at HWL
      have HW := HWL
      subst h3
      clear hid hst
      go_enter Tryd.func25, Tryd.ntmps25
      go_wp2_with fail
      refine wp_region_noPanic ?_
      refine wp_region_held_drew (S := fun w' => w'.cell? ⟨bx, 0, none⟩ = some (.int .u32 (i0 : Int)) ∧ w'.cell? ⟨bx, 1, none⟩ = some (.slice Af n cf) ∧ w'.cell? ⟨bx, 2, none⟩ = some (.slice Ap np cp) ∧ w'.cell? ⟨bx, 3, none⟩ = some (.int .i64 (i3 : Int)) ∧ w'.cell? ⟨bx, 4, none⟩ = some (.int .i64 0) ∧ w'.cell? ⟨bx + 1, 0, none⟩ = some (.int .u32 (xi : Int)) ∧ w'.cell? ⟨bx + 1, 1, none⟩ = some (.int .u32 (i3 : Int)) ∧ w'.cell? ⟨bx + 1, 2, none⟩ = some (.int .u32 (xm : Int)) ∧ w'.cell? ⟨bx + 1, 3, none⟩ = some (.int .u64 (xf : Int)) ∧ w'.cell? ⟨bx + 1, 4, none⟩ = some (.int .u64 (xl : Int))) (by kernel_rfl) (show _ from s55 (rw5 HK.out.1) (rw5 HK.out.2)) (fun hHeld => ?_)
      have HKV := Lib.hid (show _ ∧ _ from (show W.drew.heap[bx]? = _ ∧ W.drew.heap[bx + 1]? = _ from HK.out))
      have HBV := Lib.hid (show Below w.heap.size w W.drew from HB.out.drew)
      generalize World.drew W = V at *
      clear HK HB
      refine wpAnyH_take (i := 0) (v := ?_) opAt_0 (by kernel_rfl) (by kernel_rfl) (by kernel_rfl) (fun _ _ _ h => h) (Or.inl ⟨by rfl, ?_⟩) (by assumption) ?_
      rotate_left
      · (intro w hSw; obtain ⟨y0, y1, y2, y3, y4, x0, x1, x2, x3, x4⟩ := hSw; go_simp; try with_reducible rfl)
      try simp only [Act.put, List.setIfInBounds_toArray, List.set_cons_zero, List.set_cons_succ]
      refine wpAnyH_take (i := 1) (v := ?_) opAt_1 (by kernel_rfl) (by kernel_rfl) (by kernel_rfl) (fun _ _ _ h => h) (Or.inl ⟨by rfl, ?_⟩) (by assumption) ?_
      rotate_left
      · (intro w hSw; obtain ⟨y0, y1, y2, y3, y4, x0, x1, x2, x3, x4⟩ := hSw; go_simp; try with_reducible rfl)
      try simp only [Act.put, List.setIfInBounds_toArray, List.set_cons_zero, List.set_cons_succ]
      refine wpAnyH_take (i := 2) (v := ?_) opAt_2 (by kernel_rfl) (by kernel_rfl) (by kernel_rfl) (fun _ _ _ h => h) (Or.inl ⟨by rfl, ?_⟩) (by assumption) ?_
      rotate_left
      · (intro w hSw; obtain ⟨y0, y1, y2, y3, y4, x0, x1, x2, x3, x4⟩ := hSw; go_simp; try with_reducible rfl)
      try simp only [Act.put, List.setIfInBounds_toArray, List.set_cons_zero, List.set_cons_succ]
      refine wpAnyH_take (i := 3) (v := ?_) opAt_3 (by kernel_rfl) (by kernel_rfl) (by kernel_rfl) (fun _ _ _ h => h) (Or.inl ⟨by rfl, ?_⟩) (by assumption) ?_
      rotate_left
      · (intro w hSw; obtain ⟨y0, y1, y2, y3, y4, x0, x1, x2, x3, x4⟩ := hSw; go_simp; try with_reducible rfl)
      try simp only [Act.put, List.setIfInBounds_toArray, List.set_cons_zero, List.set_cons_succ]
      refine wpAnyH_take (i := 4) (v := ?_) opAt_4 (by kernel_rfl) (by kernel_rfl) (by kernel_rfl) (fun _ _ _ h => h) (Or.inl ⟨by rfl, ?_⟩) (by assumption) ?_
      rotate_left
      · (intro w hSw; obtain ⟨y0, y1, y2, y3, y4, x0, x1, x2, x3, x4⟩ := hSw; go_simp; try with_reducible rfl)
      try simp only [Act.put, List.setIfInBounds_toArray, List.set_cons_zero, List.set_cons_succ]
      refine wpAnyH_take (i := 5) (v := ?_) opAt_5 (by kernel_rfl) (by kernel_rfl) (by kernel_rfl) (fun _ _ _ h => h) (Or.inl ⟨by rfl, ?_⟩) (by assumption) ?_
      rotate_left
      · (intro w hSw; obtain ⟨y0, y1, y2, y3, y4, x0, x1, x2, x3, x4⟩ := hSw; go_simp; try with_reducible rfl)
      try simp only [Act.put, List.setIfInBounds_toArray, List.set_cons_zero, List.set_cons_succ]
      refine wpAnyH_take (i := 6) (v := ?_) opAt_6 (by kernel_rfl) (by kernel_rfl) (by kernel_rfl) (fun _ _ _ h => h) (Or.inl ⟨by rfl, ?_⟩) (by assumption) ?_
      rotate_left
      · (intro w hSw; obtain ⟨y0, y1, y2, y3, y4, x0, x1, x2, x3, x4⟩ := hSw; go_simp; try with_reducible rfl)
      try simp only [Act.put, List.setIfInBounds_toArray, List.set_cons_zero, List.set_cons_succ]
      refine wpAnyH_take (i := 7) (v := ?_) opAt_7 (by kernel_rfl) (by kernel_rfl) (by kernel_rfl) (fun _ _ _ h => h) (Or.inl ⟨by rfl, ?_⟩) (by assumption) ?_
      rotate_left
      · (intro w hSw; obtain ⟨y0, y1, y2, y3, y4, x0, x1, x2, x3, x4⟩ := hSw; go_simp; try with_reducible rfl)
      try simp only [Act.put, List.setIfInBounds_toArray, List.set_cons_zero, List.set_cons_succ]
      refine wpAnyH_take (i := 8) (v := ?_) opAt_8 (by kernel_rfl) (by kernel_rfl) (by kernel_rfl) (fun _ _ _ h => h) (Or.inl ⟨by rfl, ?_⟩) (by assumption) ?_
      rotate_left
      · (intro w hSw; obtain ⟨y0, y1, y2, y3, y4, x0, x1, x2, x3, x4⟩ := hSw; go_simp; try with_reducible rfl)
      try simp only [Act.put, List.setIfInBounds_toArray, List.set_cons_zero, List.set_cons_succ]
      refine wpAnyH_take (i := 9) (v := ?_) opAt_9 (by kernel_rfl) (by kernel_rfl) (by kernel_rfl) (fun _ _ _ h => h) (Or.inl ⟨by rfl, ?_⟩) (by assumption) ?_
      rotate_left
      · (intro w hSw; obtain ⟨y0, y1, y2, y3, y4, x0, x1, x2, x3, x4⟩ := hSw; go_simp; try with_reducible rfl)
      try simp only [Act.put, List.setIfInBounds_toArray, List.set_cons_zero, List.set_cons_succ]
      refine wpAnyH_take (i := 10) (v := ?_) opAt_10 (by kernel_rfl) (by kernel_rfl) (by kernel_rfl) (fun _ _ _ h => h) (Or.inl ⟨by rfl, ?_⟩) (by assumption) ?_
      rotate_left
      · (intro w hSw; obtain ⟨y0, y1, y2, y3, y4, x0, x1, x2, x3, x4⟩ := hSw; go_simp; try with_reducible rfl)
      try simp only [Act.put, List.setIfInBounds_toArray, List.set_cons_zero, List.set_cons_succ]
      refine wpAnyH_take (i := 11) (v := ?_) opAt_11 (by kernel_rfl) (by kernel_rfl) (by kernel_rfl) (fun _ _ _ h => h) (Or.inl ⟨by rfl, ?_⟩) (by assumption) ?_
      rotate_left
      · (intro w hSw; obtain ⟨y0, y1, y2, y3, y4, x0, x1, x2, x3, x4⟩ := hSw; go_simp; try with_reducible rfl)
      try simp only [Act.put, List.setIfInBounds_toArray, List.set_cons_zero, List.set_cons_succ]
      refine wpAnyH_take (i := 12) (v := ?_) opAt_12 (by kernel_rfl) (by kernel_rfl) (by kernel_rfl) (fun _ _ _ h => h) (Or.inl ⟨by rfl, ?_⟩) (by assumption) ?_
      rotate_left
      · (intro w hSw; obtain ⟨y0, y1, y2, y3, y4, x0, x1, x2, x3, x4⟩ := hSw; go_simp; try with_reducible rfl)
      try simp only [Act.put, List.setIfInBounds_toArray, List.set_cons_zero, List.set_cons_succ]
      refine wpAnyH_take (i := 15) (v := ?_) opAt_15 (by kernel_rfl) (by kernel_rfl) (by kernel_rfl) (fun _ _ _ h => h) (Or.inl ⟨by rfl, ?_⟩) (by assumption) ?_
      rotate_left
      · (intro w hSw; obtain ⟨y0, y1, y2, y3, y4, x0, x1, x2, x3, x4⟩ := hSw; go_simp; try with_reducible rfl)
      try simp only [Act.put, List.setIfInBounds_toArray, List.set_cons_zero, List.set_cons_succ]
      refine wpAnyH_take (i := 16) (v := ?_) opAt_16 (by kernel_rfl) (by kernel_rfl) (by kernel_rfl) (fun _ _ _ h => h) (Or.inl ⟨by rfl, ?_⟩) (by assumption) ?_
      rotate_left
      · (intro w hSw; obtain ⟨y0, y1, y2, y3, y4, x0, x1, x2, x3, x4⟩ := hSw; go_simp; try with_reducible rfl)
      try simp only [Act.put, List.setIfInBounds_toArray, List.set_cons_zero, List.set_cons_succ]
      refine wpAnyH_ready (rs := [13]) (by kernel_rfl) (by simp) ?_
      refine AllReadyH.cons rfl (fun K hK => ?_) AllReadyH.nil
      go_simp
      refine (HL.out V HBV.out).mono ?_
      rintro e V1 ⟨rfl, hbn⟩
      have HKV1 := Lib.hid (show _ ∧ _ from ⟨(hbn.block bx (Array.getElem?_eq_some_iff.1 HKV.out.1).1).trans HKV.out.1, (hbn.block (bx + 1) (Array.getElem?_eq_some_iff.1 HKV.out.2).1).trans HKV.out.2⟩)
      have HBV1 := Lib.hid (HBV.out.trans (hbn.mono HBV.out.size))
      clear HBV hbn
      have HBV := HBV1
      go_wp2_with fail
      refine hK.out _ _ (show _ from s55 (rw5 HKV1.out.1) (rw5 HKV1.out.2)) (fun hHeld => ?_)
      clear hK K
      try simp only [Act.put, List.setIfInBounds_toArray, List.set_cons_zero, List.set_cons_succ]
      refine wpAnyH_take (i := 14) (v := ?_) opAt_14 (by kernel_rfl) (by kernel_rfl) (by kernel_rfl) (fun _ _ _ h => h) (Or.inl ⟨by rfl, ?_⟩) (by assumption) ?_
      rotate_left
      · (intro w hSw; obtain ⟨y0, y1, y2, y3, y4, x0, x1, x2, x3, x4⟩ := hSw; go_simp; try with_reducible rfl)
      try simp only [Act.put, List.setIfInBounds_toArray, List.set_cons_zero, List.set_cons_succ]
      by_cases hm2 : m = xm
      · rw [decide_eq_true hm2] at HW
        have j8 : (m == xm) = true := by simpa using hm2
        have j9 : ((m : Int) == (xm : Int)) = true := by rw [hm2]; simp
        have j10 : decide ((m : Int) = (xm : Int)) = true := by rw [hm2]; simp
        have j11 : (m : Int) = (xm : Int) := by omega
        refine wpAnyH_take (i := 17) (v := ?_) opAt_17 (by kernel_rfl) (by kernel_rfl) (by kernel_rfl) (fun _ _ _ h => h) (Or.inl ⟨by rfl, ?_⟩) (by assumption) ?_
        rotate_left
        · (intro w hSw; obtain ⟨y0, y1, y2, y3, y4, x0, x1, x2, x3, x4⟩ := hSw; go_simp; try with_reducible rfl)
        try simp only [Act.put, List.setIfInBounds_toArray, List.set_cons_zero, List.set_cons_succ]
        refine wpAnyH_take (i := 18) (v := ?_) opAt_18 (by kernel_rfl) (by kernel_rfl) (by kernel_rfl) (fun _ _ _ h => h) (Or.inl ⟨by rfl, ?_⟩) (by assumption) ?_
        rotate_left
        · (intro w hSw; obtain ⟨y0, y1, y2, y3, y4, x0, x1, x2, x3, x4⟩ := hSw; go_simp; try with_reducible rfl)
        try simp only [Act.put, List.setIfInBounds_toArray, List.set_cons_zero, List.set_cons_succ]
        refine wpAnyH_take (i := 19) (v := ?_) opAt_19 (by kernel_rfl) (by kernel_rfl) (by kernel_rfl) (fun _ _ _ h => h) (Or.inl ⟨by rfl, ?_⟩) (by assumption) ?_
        rotate_left
        · (intro w hSw; obtain ⟨y0, y1, y2, y3, y4, x0, x1, x2, x3, x4⟩ := hSw; go_simp; try with_reducible rfl)
        try simp only [Act.put, List.setIfInBounds_toArray, List.set_cons_zero, List.set_cons_succ]
        refine wpAnyH_done (by kernel_rfl) ?_ _
        refine NoPanic.normal ?_
        go_wp2_with fail
        go_ret
        exact ⟨by rw [HW.out]; rfl, HBV.out⟩
      · rw [decide_eq_false hm2] at HW
        have j8 : (m == xm) = false := by simpa using hm2
        have j11 : ¬ (m : Int) = (xm : Int) := by omega
        have j9 : ((m : Int) == (xm : Int)) = false := by simp only [beq_eq_false_iff_ne, ne_eq]; exact j11
        have j10 : decide ((m : Int) = (xm : Int)) = false := decide_eq_false j11
        refine wpAnyH_take (i := 17) (v := ?_) opAt_17 (by kernel_rfl) (by kernel_rfl) (by kernel_rfl) (fun _ _ _ h => h) (Or.inl ⟨by rfl, ?_⟩) (by assumption) ?_
        rotate_left
        · (intro w hSw; obtain ⟨y0, y1, y2, y3, y4, x0, x1, x2, x3, x4⟩ := hSw; go_simp; try with_reducible rfl)
        try simp only [Act.put, List.setIfInBounds_toArray, List.set_cons_zero, List.set_cons_succ]
        refine wpAnyH_take (i := 18) (v := ?_) opAt_18 (by kernel_rfl) (by kernel_rfl) (by kernel_rfl) (fun _ _ _ h => h) (Or.inl ⟨by rfl, ?_⟩) (by assumption) ?_
        rotate_left
        · (intro w hSw; obtain ⟨y0, y1, y2, y3, y4, x0, x1, x2, x3, x4⟩ := hSw; go_simp; try with_reducible rfl)
        try simp only [Act.put, List.setIfInBounds_toArray, List.set_cons_zero, List.set_cons_succ]
        refine wpAnyH_take (i := 19) (v := ?_) opAt_19 (by kernel_rfl) (by kernel_rfl) (by kernel_rfl) (fun _ _ _ h => h) (Or.inl ⟨by rfl, ?_⟩) (by assumption) ?_
        rotate_left
        · (intro w hSw; obtain ⟨y0, y1, y2, y3, y4, x0, x1, x2, x3, x4⟩ := hSw; go_simp; try with_reducible rfl)
        try simp only [Act.put, List.setIfInBounds_toArray, List.set_cons_zero, List.set_cons_succ]
        refine wpAnyH_done (by kernel_rfl) ?_ _
        refine NoPanic.normal ?_
        go_wp2_with fail
        go_ret
        exact ⟨by rw [HW.out]; rfl, HBV.out⟩
    · rw [decide_eq_false h3, Bool.false_and] at HWL
      have HW := HWL
      have j3 : ¬ (i3 : Int) = (xs : Int) := by omega
      have j5 : decide ((i3 : Int) = (xs : Int)) = false := decide_eq_false j3
      have j6 : ((i3 : Int) == (xs : Int)) = false := by simp; omega
      have j7 : (i3 == xs) = false := by simpa using h3
      clear hid hst
      go_enter Tryd.func25, Tryd.ntmps25
      go_wp2_with fail
      refine wp_region_noPanic ?_
      refine wp_region_held_drew (S := fun w' => w'.cell? ⟨bx, 0, none⟩ = some (.int .u32 (i0 : Int)) ∧ w'.cell? ⟨bx, 1, none⟩ = some (.slice Af n cf) ∧ w'.cell? ⟨bx, 2, none⟩ = some (.slice Ap np cp) ∧ w'.cell? ⟨bx, 3, none⟩ = some (.int .i64 (i3 : Int)) ∧ w'.cell? ⟨bx, 4, none⟩ = some (.int .i64 0) ∧ w'.cell? ⟨bx + 1, 0, none⟩ = some (.int .u32 (xi : Int)) ∧ w'.cell? ⟨bx + 1, 1, none⟩ = some (.int .u32 (xs : Int)) ∧ w'.cell? ⟨bx + 1, 2, none⟩ = some (.int .u32 (xm : Int)) ∧ w'.cell? ⟨bx + 1, 3, none⟩ = some (.int .u64 (xf : Int)) ∧ w'.cell? ⟨bx + 1, 4, none⟩ = some (.int .u64 (xl : Int))) (by kernel_rfl) (show _ from s55 (rw5 HK.out.1) (rw5 HK.out.2)) (fun hHeld => ?_)
      have HKV := Lib.hid (show _ ∧ _ from (show W.drew.heap[bx]? = _ ∧ W.drew.heap[bx + 1]? = _ from HK.out))
      have HBV := Lib.hid (show Below w.heap.size w W.drew from HB.out.drew)
      generalize World.drew W = V at *
      clear HK HB
      refine wpAnyH_take (i := 0) (v := ?_) opAt_0 (by kernel_rfl) (by kernel_rfl) (by kernel_rfl) (fun _ _ _ h => h) (Or.inl ⟨by rfl, ?_⟩) (by assumption) ?_
      rotate_left
      · (intro w hSw; obtain ⟨y0, y1, y2, y3, y4, x0, x1, x2, x3, x4⟩ := hSw; go_simp; try with_reducible rfl)
      try simp only [Act.put, List.setIfInBounds_toArray, List.set_cons_zero, List.set_cons_succ]
      refine wpAnyH_take (i := 1) (v := ?_) opAt_1 (by kernel_rfl) (by kernel_rfl) (by kernel_rfl) (fun _ _ _ h => h) (Or.inl ⟨by rfl, ?_⟩) (by assumption) ?_
      rotate_left
      · (intro w hSw; obtain ⟨y0, y1, y2, y3, y4, x0, x1, x2, x3, x4⟩ := hSw; go_simp; try with_reducible rfl)
      try simp only [Act.put, List.setIfInBounds_toArray, List.set_cons_zero, List.set_cons_succ]
      refine wpAnyH_take (i := 2) (v := ?_) opAt_2 (by kernel_rfl) (by kernel_rfl) (by kernel_rfl) (fun _ _ _ h => h) (Or.inl ⟨by rfl, ?_⟩) (by assumption) ?_
      rotate_left
      · (intro w hSw; obtain ⟨y0, y1, y2, y3, y4, x0, x1, x2, x3, x4⟩ := hSw; go_simp; try with_reducible rfl)
      try simp only [Act.put, List.setIfInBounds_toArray, List.set_cons_zero, List.set_cons_succ]
      refine wpAnyH_take (i := 3) (v := ?_) opAt_3 (by kernel_rfl) (by kernel_rfl) (by kernel_rfl) (fun _ _ _ h => h) (Or.inl ⟨by rfl, ?_⟩) (by assumption) ?_
      rotate_left
      · (intro w hSw; obtain ⟨y0, y1, y2, y3, y4, x0, x1, x2, x3, x4⟩ := hSw; go_simp; try with_reducible rfl)
      try simp only [Act.put, List.setIfInBounds_toArray, List.set_cons_zero, List.set_cons_succ]
      refine wpAnyH_take (i := 4) (v := ?_) opAt_4 (by kernel_rfl) (by kernel_rfl) (by kernel_rfl) (fun _ _ _ h => h) (Or.inl ⟨by rfl, ?_⟩) (by assumption) ?_
      rotate_left
      · (intro w hSw; obtain ⟨y0, y1, y2, y3, y4, x0, x1, x2, x3, x4⟩ := hSw; go_simp; try with_reducible rfl)
      try simp only [Act.put, List.setIfInBounds_toArray, List.set_cons_zero, List.set_cons_succ]
      refine wpAnyH_take (i := 5) (v := ?_) opAt_5 (by kernel_rfl) (by kernel_rfl) (by kernel_rfl) (fun _ _ _ h => h) (Or.inl ⟨by rfl, ?_⟩) (by assumption) ?_
      rotate_left
      · (intro w hSw; obtain ⟨y0, y1, y2, y3, y4, x0, x1, x2, x3, x4⟩ := hSw; go_simp; try with_reducible rfl)
      try simp only [Act.put, List.setIfInBounds_toArray, List.set_cons_zero, List.set_cons_succ]
      refine wpAnyH_take (i := 6) (v := ?_) opAt_6 (by kernel_rfl) (by kernel_rfl) (by kernel_rfl) (fun _ _ _ h => h) (Or.inl ⟨by rfl, ?_⟩) (by assumption) ?_
      rotate_left
      · (intro w hSw; obtain ⟨y0, y1, y2, y3, y4, x0, x1, x2, x3, x4⟩ := hSw; go_simp; try with_reducible rfl)
      try simp only [Act.put, List.setIfInBounds_toArray, List.set_cons_zero, List.set_cons_succ]
      refine wpAnyH_take (i := 7) (v := ?_) opAt_7 (by kernel_rfl) (by kernel_rfl) (by kernel_rfl) (fun _ _ _ h => h) (Or.inl ⟨by rfl, ?_⟩) (by assumption) ?_
      rotate_left
      · (intro w hSw; obtain ⟨y0, y1, y2, y3, y4, x0, x1, x2, x3, x4⟩ := hSw; go_simp; try with_reducible rfl)
      try simp only [Act.put, List.setIfInBounds_toArray, List.set_cons_zero, List.set_cons_succ]
      refine wpAnyH_take (i := 8) (v := ?_) opAt_8 (by kernel_rfl) (by kernel_rfl) (by kernel_rfl) (fun _ _ _ h => h) (Or.inl ⟨by rfl, ?_⟩) (by assumption) ?_
      rotate_left
      · (intro w hSw; obtain ⟨y0, y1, y2, y3, y4, x0, x1, x2, x3, x4⟩ := hSw; go_simp; try with_reducible rfl)
      try simp only [Act.put, List.setIfInBounds_toArray, List.set_cons_zero, List.set_cons_succ]
      refine wpAnyH_take (i := 9) (v := ?_) opAt_9 (by kernel_rfl) (by kernel_rfl) (by kernel_rfl) (fun _ _ _ h => h) (Or.inl ⟨by rfl, ?_⟩) (by assumption) ?_
      rotate_left
      · (intro w hSw; obtain ⟨y0, y1, y2, y3, y4, x0, x1, x2, x3, x4⟩ := hSw; go_simp; try with_reducible rfl)
      try simp only [Act.put, List.setIfInBounds_toArray, List.set_cons_zero, List.set_cons_succ]
      refine wpAnyH_take (i := 10) (v := ?_) opAt_10 (by kernel_rfl) (by kernel_rfl) (by kernel_rfl) (fun _ _ _ h => h) (Or.inl ⟨by rfl, ?_⟩) (by assumption) ?_
      rotate_left
      · (intro w hSw; obtain ⟨y0, y1, y2, y3, y4, x0, x1, x2, x3, x4⟩ := hSw; go_simp; try with_reducible rfl)
      try simp only [Act.put, List.setIfInBounds_toArray, List.set_cons_zero, List.set_cons_succ]
      refine wpAnyH_take (i := 11) (v := ?_) opAt_11 (by kernel_rfl) (by kernel_rfl) (by kernel_rfl) (fun _ _ _ h => h) (Or.inl ⟨by rfl, ?_⟩) (by assumption) ?_
      rotate_left
      · (intro w hSw; obtain ⟨y0, y1, y2, y3, y4, x0, x1, x2, x3, x4⟩ := hSw; go_simp; try with_reducible rfl)
      try simp only [Act.put, List.setIfInBounds_toArray, List.set_cons_zero, List.set_cons_succ]
      refine wpAnyH_take (i := 12) (v := undef) opAt_12 (by kernel_rfl) (by kernel_rfl) (by kernel_rfl) (fun _ _ _ h => h) (Or.inr ⟨by rfl, rfl⟩) (by assumption) ?_
      try simp only [Act.put, List.setIfInBounds_toArray, List.set_cons_zero, List.set_cons_succ]
      refine wpAnyH_take (i := 13) (v := undef) opAt_13 (by kernel_rfl) (by kernel_rfl) (by kernel_rfl) (fun _ _ _ h => h) (Or.inr ⟨by rfl, rfl⟩) (by assumption) ?_
      try simp only [Act.put, List.setIfInBounds_toArray, List.set_cons_zero, List.set_cons_succ]
      refine wpAnyH_take (i := 14) (v := undef) opAt_14 (by kernel_rfl) (by kernel_rfl) (by kernel_rfl) (fun _ _ _ h => h) (Or.inr ⟨by rfl, rfl⟩) (by assumption) ?_
      try simp only [Act.put, List.setIfInBounds_toArray, List.set_cons_zero, List.set_cons_succ]
      refine wpAnyH_take (i := 15) (v := undef) opAt_15 (by kernel_rfl) (by kernel_rfl) (by kernel_rfl) (fun _ _ _ h => h) (Or.inr ⟨by rfl, rfl⟩) (by assumption) ?_
      try simp only [Act.put, List.setIfInBounds_toArray, List.set_cons_zero, List.set_cons_succ]
      refine wpAnyH_take (i := 16) (v := undef) opAt_16 (by kernel_rfl) (by kernel_rfl) (by kernel_rfl) (fun _ _ _ h => h) (Or.inr ⟨by rfl, rfl⟩) (by assumption) ?_
      try simp only [Act.put, List.setIfInBounds_toArray, List.set_cons_zero, List.set_cons_succ]
      refine wpAnyH_take (i := 17) (v := undef) opAt_17 (by kernel_rfl) (by kernel_rfl) (by kernel_rfl) (fun _ _ _ h => h) (Or.inr ⟨by rfl, rfl⟩) (by assumption) ?_
      try simp only [Act.put, List.setIfInBounds_toArray, List.set_cons_zero, List.set_cons_succ]
      refine wpAnyH_take (i := 18) (v := ?_) opAt_18 (by kernel_rfl) (by kernel_rfl) (by kernel_rfl) (fun _ _ _ h => h) (Or.inl ⟨by rfl, ?_⟩) (by assumption) ?_
      rotate_left
      · (intro w hSw; obtain ⟨y0, y1, y2, y3, y4, x0, x1, x2, x3, x4⟩ := hSw; go_simp; try with_reducible rfl)
      try simp only [Act.put, List.setIfInBounds_toArray, List.set_cons_zero, List.set_cons_succ]
      refine wpAnyH_take (i := 19) (v := ?_) opAt_19 (by kernel_rfl) (by kernel_rfl) (by kernel_rfl) (fun _ _ _ h => h) (Or.inl ⟨by rfl, ?_⟩) (by assumption) ?_
      rotate_left
      · (intro w hSw; obtain ⟨y0, y1, y2, y3, y4, x0, x1, x2, x3, x4⟩ := hSw; go_simp; try with_reducible rfl)
      try simp only [Act.put, List.setIfInBounds_toArray, List.set_cons_zero, List.set_cons_succ]
      refine wpAnyH_done (by kernel_rfl) ?_ _
      refine NoPanic.normal ?_
      go_wp2_with fail
      go_ret
      exact ⟨by rw [HW.out]; rfl, HBV.out⟩
  · rw [decide_eq_false h4, Bool.false_and] at HWL
    have HW := HWL
    have j4 : ¬ (i4 : Int) = 0 := by omega
    have j5 : decide ((i4 : Int) = 0) = false := decide_eq_false j4
    have j6 : ((i4 : Int) == 0) = false := by simpa using h4
    clear h4 hid hst
    go_enter Tryd.func25, Tryd.ntmps25
    go_wp2_with fail
    refine wp_region_noPanic ?_
    refine wp_region_held_drew (S := fun w' => w'.cell? ⟨bx, 0, none⟩ = some (.int .u32 (i0 : Int)) ∧ w'.cell? ⟨bx, 1, none⟩ = some (.slice Af n cf) ∧ w'.cell? ⟨bx, 2, none⟩ = some (.slice Ap np cp) ∧ w'.cell? ⟨bx, 3, none⟩ = some (.int .i64 (i3 : Int)) ∧ w'.cell? ⟨bx, 4, none⟩ = some (.int .i64 (i4 : Int)) ∧ w'.cell? ⟨bx + 1, 0, none⟩ = some (.int .u32 (xi : Int)) ∧ w'.cell? ⟨bx + 1, 1, none⟩ = some (.int .u32 (xs : Int)) ∧ w'.cell? ⟨bx + 1, 2, none⟩ = some (.int .u32 (xm : Int)) ∧ w'.cell? ⟨bx + 1, 3, none⟩ = some (.int .u64 (xf : Int)) ∧ w'.cell? ⟨bx + 1, 4, none⟩ = some (.int .u64 (xl : Int))) (by kernel_rfl) (show _ from s55 (rw5 HK.out.1) (rw5 HK.out.2)) (fun hHeld => ?_)
    have HKV := Lib.hid (show _ ∧ _ from (show W.drew.heap[bx]? = _ ∧ W.drew.heap[bx + 1]? = _ from HK.out))
    have HBV := Lib.hid (show Below w.heap.size w W.drew from HB.out.drew)
    generalize World.drew W = V at *
    clear HK HB
    refine wpAnyH_take (i := 0) (v := ?_) opAt_0 (by kernel_rfl) (by kernel_rfl) (by kernel_rfl) (fun _ _ _ h => h) (Or.inl ⟨by rfl, ?_⟩) (by assumption) ?_
    rotate_left
    · (intro w hSw; obtain ⟨y0, y1, y2, y3, y4, x0, x1, x2, x3, x4⟩ := hSw; go_simp; try with_reducible rfl)
    try simp only [Act.put, List.setIfInBounds_toArray, List.set_cons_zero, List.set_cons_succ]
    refine wpAnyH_take (i := 1) (v := ?_) opAt_1 (by kernel_rfl) (by kernel_rfl) (by kernel_rfl) (fun _ _ _ h => h) (Or.inl ⟨by rfl, ?_⟩) (by assumption) ?_
    rotate_left
    · (intro w hSw; obtain ⟨y0, y1, y2, y3, y4, x0, x1, x2, x3, x4⟩ := hSw; go_simp; try with_reducible rfl)
    try simp only [Act.put, List.setIfInBounds_toArray, List.set_cons_zero, List.set_cons_succ]
    refine wpAnyH_take (i := 2) (v := ?_) opAt_2 (by kernel_rfl) (by kernel_rfl) (by kernel_rfl) (fun _ _ _ h => h) (Or.inl ⟨by rfl, ?_⟩) (by assumption) ?_
    rotate_left
    · (intro w hSw; obtain ⟨y0, y1, y2, y3, y4, x0, x1, x2, x3, x4⟩ := hSw; go_simp; try with_reducible rfl)
    try simp only [Act.put, List.setIfInBounds_toArray, List.set_cons_zero, List.set_cons_succ]
    refine wpAnyH_take (i := 3) (v := ?_) opAt_3 (by kernel_rfl) (by kernel_rfl) (by kernel_rfl) (fun _ _ _ h => h) (Or.inl ⟨by rfl, ?_⟩) (by assumption) ?_
    rotate_left
    · (intro w hSw; obtain ⟨y0, y1, y2, y3, y4, x0, x1, x2, x3, x4⟩ := hSw; go_simp; try with_reducible rfl)
    try simp only [Act.put, List.setIfInBounds_toArray, List.set_cons_zero, List.set_cons_succ]
    refine wpAnyH_take (i := 4) (v := undef) opAt_4 (by kernel_rfl) (by kernel_rfl) (by kernel_rfl) (fun _ _ _ h => h) (Or.inr ⟨by rfl, rfl⟩) (by assumption) ?_
    try simp only [Act.put, List.setIfInBounds_toArray, List.set_cons_zero, List.set_cons_succ]
    refine wpAnyH_take (i := 5) (v := undef) opAt_5 (by kernel_rfl) (by kernel_rfl) (by kernel_rfl) (fun _ _ _ h => h) (Or.inr ⟨by rfl, rfl⟩) (by assumption) ?_
    try simp only [Act.put, List.setIfInBounds_toArray, List.set_cons_zero, List.set_cons_succ]
    refine wpAnyH_take (i := 6) (v := undef) opAt_6 (by kernel_rfl) (by kernel_rfl) (by kernel_rfl) (fun _ _ _ h => h) (Or.inr ⟨by rfl, rfl⟩) (by assumption) ?_
    try simp only [Act.put, List.setIfInBounds_toArray, List.set_cons_zero, List.set_cons_succ]
    refine wpAnyH_take (i := 7) (v := undef) opAt_7 (by kernel_rfl) (by kernel_rfl) (by kernel_rfl) (fun _ _ _ h => h) (Or.inr ⟨by rfl, rfl⟩) (by assumption) ?_
    try simp only [Act.put, List.setIfInBounds_toArray, List.set_cons_zero, List.set_cons_succ]
    refine wpAnyH_take (i := 8) (v := undef) opAt_8 (by kernel_rfl) (by kernel_rfl) (by kernel_rfl) (fun _ _ _ h => h) (Or.inr ⟨by rfl, rfl⟩) (by assumption) ?_
    try simp only [Act.put, List.setIfInBounds_toArray, List.set_cons_zero, List.set_cons_succ]
    refine wpAnyH_take (i := 9) (v := undef) opAt_9 (by kernel_rfl) (by kernel_rfl) (by kernel_rfl) (fun _ _ _ h => h) (Or.inr ⟨by rfl, rfl⟩) (by assumption) ?_
    try simp only [Act.put, List.setIfInBounds_toArray, List.set_cons_zero, List.set_cons_succ]
    refine wpAnyH_take (i := 10) (v := ?_) opAt_10 (by kernel_rfl) (by kernel_rfl) (by kernel_rfl) (fun _ _ _ h => h) (Or.inl ⟨by rfl, ?_⟩) (by assumption) ?_
    rotate_left
    · (intro w hSw; obtain ⟨y0, y1, y2, y3, y4, x0, x1, x2, x3, x4⟩ := hSw; go_simp; try with_reducible rfl)
    try simp only [Act.put, List.setIfInBounds_toArray, List.set_cons_zero, List.set_cons_succ]
    refine wpAnyH_take (i := 11) (v := ?_) opAt_11 (by kernel_rfl) (by kernel_rfl) (by kernel_rfl) (fun _ _ _ h => h) (Or.inl ⟨by rfl, ?_⟩) (by assumption) ?_
    rotate_left
    · (intro w hSw; obtain ⟨y0, y1, y2, y3, y4, x0, x1, x2, x3, x4⟩ := hSw; go_simp; try with_reducible rfl)
    try simp only [Act.put, List.setIfInBounds_toArray, List.set_cons_zero, List.set_cons_succ]
    refine wpAnyH_take (i := 12) (v := undef) opAt_12 (by kernel_rfl) (by kernel_rfl) (by kernel_rfl) (fun _ _ _ h => h) (Or.inr ⟨by rfl, rfl⟩) (by assumption) ?_
    try simp only [Act.put, List.setIfInBounds_toArray, List.set_cons_zero, List.set_cons_succ]
    refine wpAnyH_take (i := 13) (v := undef) opAt_13 (by kernel_rfl) (by kernel_rfl) (by kernel_rfl) (fun _ _ _ h => h) (Or.inr ⟨by rfl, rfl⟩) (by assumption) ?_
    try simp only [Act.put, List.setIfInBounds_toArray, List.set_cons_zero, List.set_cons_succ]
    refine wpAnyH_take (i := 14) (v := undef) opAt_14 (by kernel_rfl) (by kernel_rfl) (by kernel_rfl) (fun _ _ _ h => h) (Or.inr ⟨by rfl, rfl⟩) (by assumption) ?_
    try simp only [Act.put, List.setIfInBounds_toArray, List.set_cons_zero, List.set_cons_succ]
    refine wpAnyH_take (i := 15) (v := undef) opAt_15 (by kernel_rfl) (by kernel_rfl) (by kernel_rfl) (fun _ _ _ h => h) (Or.inr ⟨by rfl, rfl⟩) (by assumption) ?_
    try simp only [Act.put, List.setIfInBounds_toArray, List.set_cons_zero, List.set_cons_succ]
    refine wpAnyH_take (i := 16) (v := undef) opAt_16 (by kernel_rfl) (by kernel_rfl) (by kernel_rfl) (fun _ _ _ h => h) (Or.inr ⟨by rfl, rfl⟩) (by assumption) ?_
    try simp only [Act.put, List.setIfInBounds_toArray, List.set_cons_zero, List.set_cons_succ]
    refine wpAnyH_take (i := 17) (v := undef) opAt_17 (by kernel_rfl) (by kernel_rfl) (by kernel_rfl) (fun _ _ _ h => h) (Or.inr ⟨by rfl, rfl⟩) (by assumption) ?_
    try simp only [Act.put, List.setIfInBounds_toArray, List.set_cons_zero, List.set_cons_succ]
    refine wpAnyH_take (i := 18) (v := ?_) opAt_18 (by kernel_rfl) (by kernel_rfl) (by kernel_rfl) (fun _ _ _ h => h) (Or.inl ⟨by rfl, ?_⟩) (by assumption) ?_
    rotate_left
    · (intro w hSw; obtain ⟨y0, y1, y2, y3, y4, x0, x1, x2, x3, x4⟩ := hSw; go_simp; try with_reducible rfl)
    try simp only [Act.put, List.setIfInBounds_toArray, List.set_cons_zero, List.set_cons_succ]
    refine wpAnyH_take (i := 19) (v := ?_) opAt_19 (by kernel_rfl) (by kernel_rfl) (by kernel_rfl) (fun _ _ _ h => h) (Or.inl ⟨by rfl, ?_⟩) (by assumption) ?_
    rotate_left
    · (intro w hSw; obtain ⟨y0, y1, y2, y3, y4, x0, x1, x2, x3, x4⟩ := hSw; go_simp; try with_reducible rfl)
    try simp only [Act.put, List.setIfInBounds_toArray, List.set_cons_zero, List.set_cons_succ]
    refine wpAnyH_done (by kernel_rfl) ?_ _
    refine NoPanic.normal ?_
    go_wp2_with fail
    go_ret
    exact ⟨by rw [HW.out]; rfl, HBV.out⟩
end Go.Proofs.YtkpkfgcbccaibaaDoor.Sc

/- ScBetw -/

/-
  Layer 12: the landed scan: what is between two numbers is told (the closure of Lost).
-/
set_option linter.unusedVariables false
set_option linter.unusedSimpArgs false
namespace Go.Proofs.YtkpkfgcbccaibaaDoor.Sc
open Go Go.RowKit

/-- a row of periods -/
def rowP (o : List (Int × Int)) : List Value := o.flatMap fun p => [.int .u64 p.1, .int .u64 p.2]
theorem rowP_snoc (o : List (Int × Int)) (p : Int × Int) : rowP (o ++ [p]) = rowP o ++ [.int .u64 p.1, .int .u64 p.2] := by simp [rowP]
theorem period_info : (Tryd.prog.info? 45).map (fun i => (i.zero, i.size, i.bytes)) = some (some (.agg #[.int .u64 0, .int .u64 0]), 2, 16) := by kernel_rfl
/-- whatever is neither the told periods' box nor their row lies as it lay -/
structure KeepX (w w' : World) : Prop where
  size : w.heap.size ≤ w'.heap.size
  same : ∀ (k : Nat) (o : Obj), w.heap[k]? = some o → (∀ arr T z, o = .cells arr T z → T ≠ 40 ∧ T ≠ 45) → w'.heap[k]? = some o
theorem KeepX.refl (w : World) : KeepX w w := ⟨Nat.le_refl _, fun _ _ h _ => h⟩
theorem KeepX.trans {a b c : World} (h : KeepX a b) (k : KeepX b c) : KeepX a c := ⟨Nat.le_trans h.size k.size, fun i o hi hp => k.same i o (h.same i o hi hp) hp⟩
theorem KeepX.cells {w w' : World} (h : KeepX w w') {k : Nat} {arr : Array Value} {T : TypeId} {z : Nat × Nat} (hk : w.heap[k]? = some (.cells arr T z)) (h1 : T ≠ 40) (h2 : T ≠ 45) : w'.heap[k]? = some (.cells arr T z) :=
  h.same k _ hk fun arr2 T2 z2 e => by injection e with _ e _; subst e; exact ⟨h1, h2⟩
theorem KeepX.of_chg {w w' : World} {N : Nat → Prop} {T : TypeId} (hT : T = 40 ∨ T = 45) (hg : Typed w T N) (hc : Chg N w w') : KeepX w w' :=
  ⟨hc.size, fun k o hk hp => (hc.block k (Array.getElem?_eq_some_iff.1 hk).1 (fun hN => by
    obtain ⟨arr, z, e⟩ := hg k hN
    rw [hk] at e
    injection e with e
    have := hp arr T z e
    rcases hT with h | h
    · exact this.1 h
    · exact this.2 h)).trans hk⟩
theorem KeepX.of_below {w w' : World} (hb : Below w.heap.size w w') : KeepX w w' := ⟨hb.size, fun k o hk _ => (hb.block k (Array.getElem?_eq_some_iff.1 hk).1).trans hk⟩
/-- the box L holds the row of these periods -/
def LostB (w : World) (lo L : Nat) (o : List (Int × Int)) : Prop := ∃ A n c, w.heap[L]? = some (.cells #[.slice A n c] 40 (0, 0)) ∧ o.length = n ∧ w.ownsRow lo 45 2 (.slice A n c) n (rowP o)
theorem LostB.on {w w' : World} {lo L : Nat} {o : List (Int × Int)} (h : LostB w lo L o) (hb : Below w.heap.size w w') : LostB w' lo L o := by
  obtain ⟨A, n, c, h1, h2, h3⟩ := h
  exact ⟨A, n, c, (hb.block L (Array.getElem?_eq_some_iff.1 h1).1).trans h1, h2, own_below h3 hb (Nat.le_refl _)⟩
set_option maxRecDepth 100000 in
set_option maxHeartbeats 8000000 in
theorem sbetw {w : World} {lo L : Nat} {o : List (Int × Int)} (h : LostB w lo L o) (hL : lo ≤ L) (hlo : lo ≤ w.heap.size) (a b : Int) (hm : o.length ≤ 1000000) :
    Calls Tryd.prog 22 #[.int .u64 a, .int .u64 b, .pointer (some ⟨L, 0, none⟩)] w fun e w' => (∃ u, e = .returned u) ∧ LostB w' lo L (if a ≤ b then o ++ [(a, b)] else o) ∧ KeepX w w' ∧ Below lo w w' := by
  by_cases hab : a ≤ b
  · rw [if_pos hab]
    obtain ⟨A, n, c, h1, h2, h3⟩ := h
    have y0 : w.cell? ⟨L, 0, none⟩ = some (.slice A n c) := cell_of_row w L 0 _ _ _ h1
    obtain ⟨i0, hi0, hz0, hz1, hz2⟩ := info_parts period_info
    have hcf : n ≤ c ∧ c ≤ maxLen := by
      obtain ⟨A', c', e', hcf1, hcf2, _⟩ := own_slice h3
      injection e' with e1 e2 e3
      rw [e3]
      exact ⟨hcf1, hcf2⟩
    rw [h2] at hm
    have HO := Lib.hid h3
    have HK := Lib.hid h1
    have HLO := Lib.hid (And.intro hL hlo)
    have HN := Lib.hid h2
    obtain ⟨g6, hg6⟩ : ∃ g6, w.heap.size = g6 := ⟨_, rfl⟩
    obtain ⟨W6, hW6⟩ : ∃ W6, w.alloc (.cells #[.int .u64 a, .int .u64 b] 45) = W6 := ⟨_, rfl⟩
    have hb6 : Below w.heap.size w W6 := by rw [← hW6]; exact (Below.refl _ _).alloc (Nat.le_refl _) _
    have hbk6 : W6.heap[g6]? = some (.cells #[.int .u64 a, .int .u64 b] 45 (0, 0)) := by rw [← hW6, ← hg6]; exact heap_alloc_new w _
    have hrd6 : Rd W6 (g6 + 1) (some ⟨g6, 0, none⟩) [.int .u64 a, .int .u64 b] := fun _ => ⟨g6, 0, rfl, by omega, fun j u hu => by
      rw [cell_of_row W6 g6 (0 + j) _ _ _ hbk6]
      simpa using hu⟩
    have HRD6 := Lib.hid hrd6
    have HB6 := Lib.hid hb6
    have HO6 := Lib.hid (own_below h3 hb6 (Nat.le_refl _))
    have HK6 := Lib.hid ((hb6.block L (Array.getElem?_eq_some_iff.1 h1).1).trans h1)
    have HS6 := Lib.hid hb6.size
    clear h1 h2 h3 hb6 hbk6 hrd6 hL hlo
    have jab : decide (a ≤ b) = true := decide_eq_true hab
    go_enter Tryd.func22, Tryd.ntmps22
    go_wp2_with (at_builtin; (refine wpList_append_rd _ rfl _ _ 40 rfl lo 45 i0 (.agg #[.int .u64 0, .int .u64 0]) 2 16 Tryd.underlying40 hi0 hz0 hz1 hz2 rfl (by omega) (.slice A n c) n (rowP o) rfl HO6.out (g6 + 1) (some ⟨g6, 0, none⟩) 1 1 [.int .u64 a, .int .u64 b] rfl rfl HRD6.out (by simp [Value.oneCell']) (by unfold maxLen; omega) (by omega) (by have := HS6.out; have := HLO.out.2; omega) ?_); intro v7 W7 hown7 hb7 hg7 hv7; (obtain ⟨A7, c7, rfl, _, _, _⟩ := own_slice hown7); (have HO7 := Lib.hid hown7); (have HB7 := Lib.hid hb7); (have HC7 := Lib.hid (Chg.of_grown (M := fun g => (Value.slice A n c).ownBlock = some g) hg7 (fun g h => h))); (have HT6 := Lib.hid (own_typed HO6.out)); (clear hown7 hb7 hg7 hv7); (have HK7 := Lib.hid (HT6.out.keep HC7.out HK6.out (by decide))); (have y7 : W7.cell? ⟨L, 0, none⟩ = some (.slice A n c) := cell_of_row W7 L 0 _ _ _ HK7.out); (have f7 : W7.frozen? ⟨L, 0, none⟩ = false := by simp [World.frozen?, HK7.out]))
    go_end0
    have h8 := Go.Joins.block_setCell (i := 0) HK7.out (.slice A7 (n + 1) c7)
    have h8 : _ = some (Obj.cells #[.slice A7 (n + 1) c7] 40 (0, 0)) := h8
    have c8 := chg1 W7 L 0 (.slice A7 (n + 1) c7)
    have hty : Typed W7 40 (fun i => i = L) := fun g e => by obtain rfl : g = L := e; exact ⟨_, _, HK7.out⟩
    refine ⟨⟨_, rfl⟩, ⟨A7, n + 1, c7, h8, by rw [List.length_append, HN.out]; rfl, by rw [rowP_snoc]; exact hty.own (by decide) c8 HO7.out⟩, ?_, ?_⟩
    · exact ((KeepX.of_below HB6.out).trans (KeepX.of_chg (.inr rfl) HT6.out HC7.out)).trans (KeepX.of_chg (.inl rfl) hty c8)
    · exact ((HB6.out.mono HLO.out.2).trans HB7.out).trans (c8.below (by have := HB7.out.size; have := HS6.out; have := HLO.out.2; omega) (fun i e => by obtain rfl : i = L := e; exact HLO.out.1))
  · rw [if_neg hab]
    have HH := Lib.hid h
    have jab : decide (a ≤ b) = false := decide_eq_false hab
    clear h
    go_enter Tryd.func22, Tryd.ntmps22
    go_wp2_with fail
    go_end0
    exact ⟨⟨_, rfl⟩, HH.out, KeepX.refl _, Below.refl _ _⟩
end Go.Proofs.YtkpkfgcbccaibaaDoor.Sc

