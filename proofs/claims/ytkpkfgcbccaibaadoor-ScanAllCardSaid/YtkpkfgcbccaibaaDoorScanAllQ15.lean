/-
  ScanAll, part 15 of what the law's proof leans on: ScTwo, ScLaw.
-/
import Derived.Test.YtkpkfgcbccaibaaDoorScanAllQ14
import Derived.Test.YtkpkfgcbccaibaaDoorScanAllQ13
/- ScTwo -/

/-
  Layer 12: two scans, each stored in a block of its own.
-/
set_option linter.unusedVariables false
set_option linter.unusedSimpArgs false
namespace Go.Proofs.YtkpkfgcbccaibaaDoor.Sc
open Go Go.RowKit Go.Proofs.YtkpkfgcbccaibaaDoor

/-- a block of a scan is changed: other scans' values are as they were -/
theorem ScanV.apart {T : TypeId} {w w' : World} {lo : Nat} {v : Value} {s : S} {N : Nat → Prop} {T' : TypeId} (h : ScanV T w lo v s) (hg : Typed w T' N) (h1 : T ≠ T') (h2 : T' ≠ 5) (h3 : 3 ≠ T') (hc : Chg N w w') : ScanV T w' lo v s := by
  obtain ⟨vf, vp, q, e1, e2, e3, e4, e5⟩ := h
  exact ⟨vf, vp, q, e1, e2, hg.own h1 hc e3, fun x hx => FqOk.apart hg h2 hc (e4 x hx), hg.own h3 hc e5⟩
/-- the block g holds the scan s, whose memory is from lo on -/
def AtScan (w : World) (B g : Nat) (s : S) : Prop := B ≤ g ∧ ∃ lo Af cf Ap cp, B ≤ lo ∧ ScBox w lo g s Af cf Ap cp
theorem AtScan.on {w w' : World} {B g : Nat} {s : S} (h : AtScan w B g s) (hb : Below w.heap.size w w') : AtScan w' B g s := by
  obtain ⟨h0, lo, Af, cf, Ap, cp, h1, h2⟩ := h
  exact ⟨h0, lo, Af, cf, Ap, cp, h1, h2.on hb⟩
/-- a call's scan, not stored yet -/
def TellS (w : World) (B : Nat) (v : Value) (s : S) : Prop := ∃ lo, B ≤ lo ∧ ScanV 52 w lo v s
theorem TellS.on {w w' : World} {B : Nat} {v : Value} {s : S} (h : TellS w B v s) (hb : Below w.heap.size w w') : TellS w' B v s := by
  obtain ⟨lo, h1, h2⟩ := h
  exact ⟨lo, h1, h2.on hb⟩
theorem TellS.lit {w : World} {B : Nat} {v : Value} {s : S} (h : TellS w B v s) (i st wy : Int) (n np : Nat) (h1 : (s.id : Int) = i) (h2 : s.found.length = n) (h3 : s.passed.length = np) (h4 : (s.stop : Int) = st) (h5 : (s.why : Int) = wy) :
    ∃ Af cf Ap cp, v = .agg #[.int .u32 i, .slice Af n cf, .slice Ap np cp, .int .i64 st, .int .i64 wy] := by
  obtain ⟨lo, _, hs⟩ := h
  obtain ⟨Af, cf, Ap, cp, q, rfl, _⟩ := hs.lit i st wy n np h1 h2 h3 h4 h5
  exact ⟨Af, cf, Ap, cp, rfl⟩
theorem ScanV.cells {w : World} {lo : Nat} {s : S} {Af Ap : Option Addr} {nf cf np cp : Nat} {i st wy : Int} (h : ScanV 52 w lo (.agg #[.int .u32 i, .slice Af nf cf, .slice Ap np cp, .int .i64 st, .int .i64 wy]) s) :
    i = (s.id : Int) ∧ nf = s.found.length ∧ np = s.passed.length ∧ st = (s.stop : Int) ∧ wy = (s.why : Int) := by
  obtain ⟨Af', nf', cf', Ap', np', cp', q, e, h1, h2, h3, h4, _⟩ := h.open
  simp only [Value.agg.injEq, Array.mk.injEq, List.cons.injEq, Value.int.injEq, Value.slice.injEq, and_true, true_and] at e
  obtain ⟨e0, ⟨_, e1, _⟩, ⟨_, e2, _⟩, e3, e4⟩ := e
  exact ⟨e0, by rw [e1, h4], by rw [e2, h3], e3, e4⟩
theorem two_stored {V : World} {B g1 g2 : Nat} {s1 s2 : S} {Af1 Ap1 Af2 Ap2 : Option Addr} {nf1 cf1 np1 cp1 nf2 cf2 np2 cp2 : Nat} {i1 st1 wy1 i2 st2 wy2 : Int}
    (h1 : V.heap[g1]? = some (.cells #[.int .u32 0, .slice none 0 0, .slice none 0 0, .int .i64 0, .int .i64 0] 31 (0, 0)))
    (h2 : V.heap[g2]? = some (.cells #[.int .u32 0, .slice none 0 0, .slice none 0 0, .int .i64 0, .int .i64 0] 31 (0, 0)))
    (hne : g1 ≠ g2) (hB1 : B ≤ g1) (hB2 : B ≤ g2)
    (t1 : TellS V B (.agg #[.int .u32 i1, .slice Af1 nf1 cf1, .slice Ap1 np1 cp1, .int .i64 st1, .int .i64 wy1]) s1) (t2 : TellS V B (.agg #[.int .u32 i2, .slice Af2 nf2 cf2, .slice Ap2 np2 cp2, .int .i64 st2, .int .i64 wy2]) s2) :
    AtScan (set5 (set5 V g1 (.int .u32 i1) (.slice Af1 nf1 cf1) (.slice Ap1 np1 cp1) (.int .i64 st1) (.int .i64 wy1)) g2 (.int .u32 i2) (.slice Af2 nf2 cf2) (.slice Ap2 np2 cp2) (.int .i64 st2) (.int .i64 wy2)) B g1 s1 ∧
    AtScan (set5 (set5 V g1 (.int .u32 i1) (.slice Af1 nf1 cf1) (.slice Ap1 np1 cp1) (.int .i64 st1) (.int .i64 wy1)) g2 (.int .u32 i2) (.slice Af2 nf2 cf2) (.slice Ap2 np2 cp2) (.int .i64 st2) (.int .i64 wy2)) B g2 s2 ∧
    (∀ w, Below B w V → B ≤ V.heap.size → Below B w (set5 (set5 V g1 (.int .u32 i1) (.slice Af1 nf1 cf1) (.slice Ap1 np1 cp1) (.int .i64 st1) (.int .i64 wy1)) g2 (.int .u32 i2) (.slice Af2 nf2 cf2) (.slice Ap2 np2 cp2) (.int .i64 st2) (.int .i64 wy2))) := by
  have c1 := set5_chg V g1 (.int .u32 i1) (.slice Af1 nf1 cf1) (.slice Ap1 np1 cp1) (.int .i64 st1) (.int .i64 wy1)
  have k1 := set5_at h1 (.int .u32 i1) (.slice Af1 nf1 cf1) (.slice Ap1 np1 cp1) (.int .i64 st1) (.int .i64 wy1)
  have ty1 : Typed V 31 (fun i => i = g1) := fun g e => by obtain rfl : g = g1 := e; exact ⟨_, _, h1⟩
  have k2 := (c1.block g2 (Array.getElem?_eq_some_iff.1 h2).1 (fun e => hne e.symm)).trans h2
  generalize set5 V g1 (.int .u32 i1) (.slice Af1 nf1 cf1) (.slice Ap1 np1 cp1) (.int .i64 st1) (.int .i64 wy1) = V1 at *
  have c2 := set5_chg V1 g2 (.int .u32 i2) (.slice Af2 nf2 cf2) (.slice Ap2 np2 cp2) (.int .i64 st2) (.int .i64 wy2)
  have k3 := set5_at k2 (.int .u32 i2) (.slice Af2 nf2 cf2) (.slice Ap2 np2 cp2) (.int .i64 st2) (.int .i64 wy2)
  have ty2 : Typed V1 31 (fun i => i = g2) := fun g e => by obtain rfl : g = g2 := e; exact ⟨_, _, k2⟩
  generalize set5 V1 g2 (.int .u32 i2) (.slice Af2 nf2 cf2) (.slice Ap2 np2 cp2) (.int .i64 st2) (.int .i64 wy2) = V2 at *
  obtain ⟨lo1, q1, t1⟩ := t1
  obtain ⟨lo2, q2, t2⟩ := t2
  have t1 := (t1.apart ty1 (by decide) (by decide) (by decide) c1).apart ty2 (by decide) (by decide) (by decide) c2
  have t2 := (t2.apart ty1 (by decide) (by decide) (by decide) c1).apart ty2 (by decide) (by decide) (by decide) c2
  have k4 := (c2.block g1 (Array.getElem?_eq_some_iff.1 k1).1 hne).trans k1
  obtain ⟨rfl, rfl, rfl, rfl, rfl⟩ := t1.cells
  obtain ⟨rfl, rfl, rfl, rfl, rfl⟩ := t2.cells
  exact ⟨⟨hB1, lo1, Af1, cf1, Ap1, cp1, q1, k4, t1⟩, ⟨hB2, lo2, Af2, cf2, Ap2, cp2, q2, k3, t2⟩, fun w hb hs => (hb.trans (c1.below hs (fun i e => by omega))).trans (c2.below (by have := c1.size; omega) (fun i e => by omega))⟩
/-- a scan in a block, its numbers spelled out -/
theorem AtScan.lit {w : World} {B g : Nat} {s : S} (h : AtScan w B g s) (i st wy : Int) (n np : Nat) (h1 : (s.id : Int) = i) (h2 : s.found.length = n) (h3 : s.passed.length = np) (h4 : (s.stop : Int) = st) (h5 : (s.why : Int) = wy) :
    B ≤ g ∧ ∃ lo Af cf Ap cp, ∃ q : List Fq, B ≤ lo ∧ w.heap[g]? = some (.cells #[.int .u32 i, .slice Af n cf, .slice Ap np cp, .int .i64 st, .int .i64 wy] 31 (0, 0)) ∧
      ScanV 52 w lo (.agg #[.int .u32 i, .slice Af n cf, .slice Ap np cp, .int .i64 st, .int .i64 wy]) s ∧ q.map (·.1) = s.found ∧ n ≤ cf ∧ cf ≤ maxLen ∧ w.ownsRow lo 52 9 (.slice Af n cf) n (rowF s.id q) ∧ (∀ x ∈ q, FqOk w lo x) := by
  obtain ⟨hg, lo, Af, cf, Ap, cp, hlo, hb, hs⟩ := h
  subst h1 h2 h3 h4 h5
  obtain ⟨Af', nf', cf', Ap', np', cp', q, e, hq, hn, hp, hf, e1, e2, e3, e4, o1, o2, o3⟩ := hs.open
  simp only [Value.agg.injEq, Array.mk.injEq, List.cons.injEq, Value.int.injEq, Value.slice.injEq, and_true, true_and] at e
  obtain ⟨⟨rfl, rfl, rfl⟩, ⟨rfl, rfl, rfl⟩⟩ := e
  exact ⟨hg, lo, Af, cf, Ap, cp, q, hlo, hb, hs, hq, e1, e2, o1, o2⟩
end Go.Proofs.YtkpkfgcbccaibaaDoor.Sc

/- ScLaw -/

/-
  Layer 12: what the laws' walks share.
-/
set_option linter.unusedVariables false
set_option linter.unusedSimpArgs false
namespace Go.Proofs.YtkpkfgcbccaibaaDoor.Sc
open Go Go.RowKit Go.Proofs.YtkpkfgcbccaibaaDoor

theorem seal_fits {s : S} (h : Rise s) (h1 : s.id < 4294967296) (h2 : s.stop < 4294967296) (h3 : s.found.length + s.passed.length < 4294967296) : (seal_ s).Fits := by
  have hl : lastF s.found < 18446744073709551616 := by
    by_cases hne : s.found = []
    · rw [hne]; decide
    · obtain ⟨f, hf, e⟩ := lastF_mem hne
      have := h.num f hf
      rw [e]
      omega
  have hf : firstOf s.found < 18446744073709551616 := by
    rcases hne : s.found with _ | ⟨f, fs⟩
    · decide
    · have := h.num f (by rw [hne]; simp)
      show f.r.seq.toNat < _
      omega
  exact ⟨h1, h2, h3, hf, hl⟩
theorem recsP_get : ∀ {l : List Pl} {i s j : Nat} {r : Rc.Rec}, (recsP i s l)[j]? = some r → ∃ s' a, r = mkP (i + j) s' a ∧ l[j]? = some a ∧ s' = seqN s (l.take j) + (1 + a.above)
  | [], i, s, j, r, h => by simp [recsP] at h
  | a :: l, i, s, 0, r, h => by
    simp only [recsP, List.getElem?_cons_zero, Option.some.injEq] at h
    exact ⟨_, a, h.symm, rfl, rfl⟩
  | a :: l, i, s, j + 1, r, h => by
    simp only [recsP, List.getElem?_cons_succ] at h
    obtain ⟨s', b, h1, h2, h3⟩ := recsP_get h
    exact ⟨s', b, by rw [h1]; congr 1; omega, by simpa using h2, by rw [h3]; rfl⟩
theorem rowL12_get : ∀ {l : List Fd} {j : Nat} {f : Fd}, l[j]? = some f → (rowL12 l)[j * 3]? = some (.int .i64 (f.off : Int)) ∧ (rowL12 l)[j * 3 + 1]? = some (.int .i64 ((f.off + f.size : Nat) : Int)) ∧ (rowL12 l)[j * 3 + 2]? = some (.int .u64 f.r.seq)
  | [], j, f, h => by simp at h
  | x :: l, 0, f, h => by
    simp at h
    subst h
    exact ⟨rfl, rfl, rfl⟩
  | x :: l, j + 1, f, h => by
    have := rowL12_get (l := l) (j := j) (by simpa using h)
    have e : rowL12 (x :: l) = [.int .i64 (x.off : Int), .int .i64 ((x.off + x.size : Nat) : Int), .int .u64 x.r.seq] ++ rowL12 l := rfl
    have e0 : (j + 1) * 3 = j * 3 + 2 + 1 := by omega
    rw [e, e0]
    exact this
/-- the wholes of a cut come first -/
theorem whole_step {l : List Rc.Rec} {i k j : Nat} (h : ∀ j, j < l.length → (endN l (j + 1) ≤ k ↔ j < i)) (hj : j < l.length) :
    (endN l (j + 1) ≤ k ∧ min (j + 1) i = j + 1) ∨ (¬ endN l (j + 1) ≤ k ∧ min (j + 1) i = min j i) := by
  by_cases hk : endN l (j + 1) ≤ k
  · exact .inl ⟨hk, by have := (h j hj).1 hk; omega⟩
  · exact .inr ⟨hk, by have : ¬ j < i := fun h2 => hk ((h j hj).2 h2); omega⟩
theorem of_all {rs : List Rc.Rec} {n : Nat} (hid : Hd.mayB ((1 : Nat) : Int) 7 = true) (h : Up 0 rs) (hr : (runsL rs).length ≤ 5800) (hn : n = 16 + (runsL rs).length) : of 7 (layB 7 rs) = ⟨7, places 16 rs, [], n, 0⟩ := by
  have := of_lay 7 hid rs [] h (by omega) (.inl rfl)
  rw [List.append_nil, if_pos rfl] at this
  rw [this, hn]
/-- the first number, and the last one, where the runs stand -/
theorem fi_la {rs : List Rc.Rec} {m jm : Nat} (h : Up 0 rs) (hm : rs.length = m) (hj : jm + 1 = m) :
    (rowL12 (places 16 rs))[2]? = some (.int .u64 ((firstOf (places 16 rs) : Nat) : Int)) ∧ (rowL12 (places 16 rs))[jm * 3 + 2]? = some (.int .u64 ((lastF (places 16 rs) : Nat) : Int)) := by
  have hne : rs ≠ [] := by rintro rfl; simp at hm; omega
  obtain ⟨x, l, rfl⟩ : ∃ x l, rs = x :: l := List.exists_cons_of_ne_nil hne
  have h0 := h.2.1
  constructor
  · show some (Value.int .u64 x.seq) = some (Value.int .u64 ((x.seq.toNat : Nat) : Int))
    rw [Int.toNat_of_nonneg (by omega)]
  · obtain ⟨r, hr⟩ : ∃ r, (x :: l)[jm]? = some r := ⟨_, List.getElem?_eq_getElem (by omega)⟩
    have h1 := (rowL12_get (places_endN hr)).2.2
    rw [h1]
    obtain ⟨f, hf⟩ : ∃ f, (places 16 (x :: l))[jm]? = some f := ⟨_, places_endN hr⟩
    have h2 := lastF_get hf (by rw [places_length]; omega)
    rw [h2]
    rw [places_endN hr] at hf
    injection hf with hf
    subst hf
    have := (mem_le h r (List.mem_of_getElem? hr)).1
    show some (Value.int .u64 r.seq) = some (Value.int .u64 ((r.seq.toNat : Nat) : Int))
    rw [Int.toNat_of_nonneg (by omega)]
end Go.Proofs.YtkpkfgcbccaibaaDoor.Sc

