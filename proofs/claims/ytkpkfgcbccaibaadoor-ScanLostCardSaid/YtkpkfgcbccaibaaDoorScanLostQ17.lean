/-
  ScanLost, part 17 of what the law's proof leans on: ScLaw, ScLsP, ScLsQ.
-/
import Derived.Test.YtkpkfgcbccaibaaDoorScanLostQ16
import Derived.Test.YtkpkfgcbccaibaaDoorScanLostQ15
/- ScLaw -/

/-
  Layer 12: what the laws' walks share.
-/
set_option linter.unusedVariables false
set_option linter.unusedSimpArgs false
namespace Go.Proofs.YtkpkfgcbccaibaaDoor.Sc
open Go Go.RowKit Go.Proofs.YtkpkfgcbccaibaaDoor

theorem seal_fits {s : S} (h : Rise s) (h1 : s.id < 4294967296) (h2 : s.stop < 4294967296) (h3 : s.found.length + s.passed.length < 4294967296) : (seal_ s).Fits := by
  have hl : lastF s.found < 18446744073709551616 := by
    by_cases hne : s.found = []
    · rw [hne]; decide
    · obtain ⟨f, hf, e⟩ := lastF_mem hne
      have := h.num f hf
      rw [e]
      omega
  have hf : firstOf s.found < 18446744073709551616 := by
    rcases hne : s.found with _ | ⟨f, fs⟩
    · decide
    · have := h.num f (by rw [hne]; simp)
      show f.r.seq.toNat < _
      omega
  exact ⟨h1, h2, h3, hf, hl⟩
theorem recsP_get : ∀ {l : List Pl} {i s j : Nat} {r : Rc.Rec}, (recsP i s l)[j]? = some r → ∃ s' a, r = mkP (i + j) s' a ∧ l[j]? = some a ∧ s' = seqN s (l.take j) + (1 + a.above)
  | [], i, s, j, r, h => by simp [recsP] at h
  | a :: l, i, s, 0, r, h => by
    simp only [recsP, List.getElem?_cons_zero, Option.some.injEq] at h
    exact ⟨_, a, h.symm, rfl, rfl⟩
  | a :: l, i, s, j + 1, r, h => by
    simp only [recsP, List.getElem?_cons_succ] at h
    obtain ⟨s', b, h1, h2, h3⟩ := recsP_get h
    exact ⟨s', b, by rw [h1]; congr 1; omega, by simpa using h2, by rw [h3]; rfl⟩
theorem rowL12_get : ∀ {l : List Fd} {j : Nat} {f : Fd}, l[j]? = some f → (rowL12 l)[j * 3]? = some (.int .i64 (f.off : Int)) ∧ (rowL12 l)[j * 3 + 1]? = some (.int .i64 ((f.off + f.size : Nat) : Int)) ∧ (rowL12 l)[j * 3 + 2]? = some (.int .u64 f.r.seq)
  | [], j, f, h => by simp at h
  | x :: l, 0, f, h => by
    simp at h
    subst h
    exact ⟨rfl, rfl, rfl⟩
  | x :: l, j + 1, f, h => by
    have := rowL12_get (l := l) (j := j) (by simpa using h)
    have e : rowL12 (x :: l) = [.int .i64 (x.off : Int), .int .i64 ((x.off + x.size : Nat) : Int), .int .u64 x.r.seq] ++ rowL12 l := rfl
    have e0 : (j + 1) * 3 = j * 3 + 2 + 1 := by omega
    rw [e, e0]
    exact this
theorem of_all {rs : List Rc.Rec} {n : Nat} (hid : Hd.mayB ((1 : Nat) : Int) 7 = true) (h : Up 0 rs) (hr : (runsL rs).length ≤ 5800) (hn : n = 16 + (runsL rs).length) : of 7 (layB 7 rs) = ⟨7, places 16 rs, [], n, 0⟩ := by
  have := of_lay 7 hid rs [] h (by omega) (.inl rfl)
  rw [List.append_nil, if_pos rfl] at this
  rw [this, hn]
theorem seal_whole {rs : List Rc.Rec} {n : Nat} (hn : n = 16 + (runsL rs).length) : seal_ ⟨7, places 16 rs, [], n, 0⟩ = wholeSeal 7 rs := by
  unfold seal_ wholeSeal
  simp only [places_length, List.length_nil, Nat.add_zero]
  rw [← hn]
/-- a record found, in memory: its nine cells -/
theorem found_cells {w : World} {lo n cf : Nat} {A : Option Addr} {q : List Fq} {fs : List Fd} (ho : w.ownsRow lo 52 9 (.slice A n cf) n (rowF 7 q)) (hf : ∀ x ∈ q, FqOk w lo x) (hq : q.map (·.1) = fs) (hn : 0 < n) {j : Nat} {f : Fd} (hj : fs[j]? = some f) :
    ∃ g Ak nk ck Av nv cv, A = some ⟨g, 0, none⟩ ∧ lo ≤ g ∧ w.cell? ⟨g, j * 9, none⟩ = some (.int .u32 7) ∧ w.cell? ⟨g, j * 9 + 1, none⟩ = some (.int .u32 (f.off : Int)) ∧ w.cell? ⟨g, j * 9 + 2, none⟩ = some (.int .i64 (f.size : Int)) ∧ w.cell? ⟨g, j * 9 + 3, none⟩ = some (.int .u64 f.r.seq) ∧ w.cell? ⟨g, j * 9 + 4, none⟩ = some (.int .i64 f.r.kind) ∧
      w.cell? ⟨g, j * 9 + 5, none⟩ = some (.slice Ak nk ck) ∧ w.cell? ⟨g, j * 9 + 6, none⟩ = some (.slice Av nv cv) ∧ w.cell? ⟨g, j * 9 + 7, none⟩ = some (.int .u32 f.r.seg) ∧ w.cell? ⟨g, j * 9 + 8, none⟩ = some (.int .u32 f.r.off) ∧ RowIn w lo (.slice Ak nk ck) f.r.key ∧ RowIn w lo (.slice Av nv cv) f.r.val := by
  obtain ⟨g, rfl, hg⟩ := own_at ho hn
  obtain ⟨xq, hxq⟩ : ∃ x, q[j]? = some x := by
    subst hq
    rw [List.getElem?_map] at hj
    rcases h : q[j]? with _ | x
    · rw [h] at hj; cases hj
    · exact ⟨x, rfl⟩
  have hx1 : xq.1 = f := by
    have h1 : (q.map (·.1))[j]? = some xq.1 := by rw [List.getElem?_map, hxq]; rfl
    rw [hq] at h1
    exact Option.some.inj (h1.symm.trans hj)
  have hfq := hf xq (List.mem_of_getElem? hxq)
  obtain ⟨fd, kv, vv⟩ := xq
  have hx1 : fd = f := hx1
  subst hx1
  have h5 := hfq.key
  have h6 := hfq.val
  dsimp only at h5 h6
  obtain ⟨Ak, nk, ck, rfl⟩ : ∃ A n c, kv = .slice A n c := by rcases h5 with ⟨h1, _⟩ | ⟨g, h1, _⟩ <;> exact ⟨_, _, _, h1⟩
  obtain ⟨Av, nv, cv, rfl⟩ : ∃ A n c, vv = .slice A n c := by rcases h6 with ⟨h1, _⟩ | ⟨g, h1, _⟩ <;> exact ⟨_, _, _, h1⟩
  have F := fun k (hk : k < 9) => rowF_get (id := 7) hxq k hk
  have c0 := ho.cells (g := g) rfl (j * 9) _ (F 0 (by decide))
  have c1 := ho.cells (g := g) rfl (j * 9 + 1) _ (F 1 (by decide))
  have c2 := ho.cells (g := g) rfl (j * 9 + 2) _ (F 2 (by decide))
  have c3 := ho.cells (g := g) rfl (j * 9 + 3) _ (F 3 (by decide))
  have c4 := ho.cells (g := g) rfl (j * 9 + 4) _ (F 4 (by decide))
  have c5 := ho.cells (g := g) rfl (j * 9 + 5) _ (F 5 (by decide))
  have c6 := ho.cells (g := g) rfl (j * 9 + 6) _ (F 6 (by decide))
  have c7 := ho.cells (g := g) rfl (j * 9 + 7) _ (F 7 (by decide))
  have c8 := ho.cells (g := g) rfl (j * 9 + 8) _ (F 8 (by decide))
  rw [addr_add1] at c0 c1 c2 c3 c4 c5 c6 c7 c8
  exact ⟨g, Ak, nk, ck, Av, nv, cv, rfl, hg, c0, c1, c2, c3, c4, c5, c6, c7, c8, h5, h6⟩
theorem ScanV.lit2 {T : TypeId} {w : World} {lo : Nat} {v : Value} {s : S} (h : ScanV T w lo v s) (i st wy : Int) (n np : Nat) (h1 : (s.id : Int) = i) (h2 : s.found.length = n) (h3 : s.passed.length = np) (h4 : (s.stop : Int) = st) (h5 : (s.why : Int) = wy) :
    ∃ Af cf Ap cp, ∃ q : List Fq, v = .agg #[.int .u32 i, .slice Af n cf, .slice Ap np cp, .int .i64 st, .int .i64 wy] ∧ q.map (·.1) = s.found ∧ n ≤ cf ∧ w.ownsRow lo T 9 (.slice Af n cf) n (rowF s.id q) ∧ (∀ x ∈ q, FqOk w lo x) := by
  obtain ⟨Af, nf, cf, Ap, np', cp, q, e, hq, hn, hp, hf, e1, e2, e3, e4, o1, o3, o2⟩ := h.open
  subst h1 h2 h3 h4 h5
  subst hf hp
  exact ⟨Af, cf, Ap, cp, q, e, hq, e1, o1, o3⟩
end Go.Proofs.YtkpkfgcbccaibaaDoor.Sc

/- ScLsP -/

/-
  ScanLost, plain mathematics: bits are turned within one run, or within the head.
-/
set_option linter.unusedVariables false
set_option linter.unusedSimpArgs false
namespace Go.Proofs.YtkpkfgcbccaibaaDoor.Sc
open Go.RowKit

/-- how many runs begin at or ahead of byte p -/
theorem runs_at (l : List Rc.Rec) (p : Nat) : ∃ T, T ≤ l.length ∧ ∀ i, i < l.length → (endN l i ≤ p ↔ i < T) := by
  have main : ∀ m, m ≤ l.length → ∃ T, T ≤ m ∧ ∀ i, i < m → (endN l i ≤ p ↔ i < T) := by
    intro m
    induction m with
    | zero => intro _; exact ⟨0, Nat.le_refl _, fun i hi => by omega⟩
    | succ m ih =>
      intro hm
      obtain ⟨T, h1, h2⟩ := ih (by omega)
      by_cases hp : endN l m ≤ p
      · refine ⟨m + 1, Nat.le_refl _, fun i hi => ⟨fun _ => hi, fun _ => ?_⟩⟩
        have := endN_mono l (i := i) (j := m) (by omega)
        omega
      · refine ⟨T, by omega, fun i hi => ?_⟩
        by_cases hi2 : i < m
        · exact h2 i hi2
        · obtain rfl : i = m := by omega
          exact ⟨fun h => absurd h hp, fun h => by omega⟩
  exact main l.length (Nat.le_refl _)
/-- what is turned: the bytes A ahead, M, C behind; P: what M may have become behind so many bits -/
structure Plan (rs : List Rc.Rec) (b : BitVec 32) (first lo hi : Nat) (A C : List UInt8) (P : Nat → List UInt8 → Prop) (s : S) : Prop where
  alen : A.length = lo
  lohi : 8 * lo ≤ first ∧ first < 8 * hi ∧ hi ≤ 16 + (runsL rs).length
  whole : ∃ M, layB 7 rs = A ++ (M ++ C) ∧ P 0 M
  len : ∀ j l, P j l → l.length = hi - lo
  same : ∀ j l, P j l → j < 32 → b.getLsbD j = false → P (j + 1) l
  bit : ∀ j l p q c, P j l → j < 32 → b.getLsbD j = true → l[p]? = some c → q < 8 → first - 8 * lo + j = 8 * p + q → P (j + 1) (l.set p (c ^^^ UInt8.ofNat (2 ^ q)))
  fin : ∀ j l, P j l → j ≤ 32 → 0 < j → of 7 (A ++ (l ++ C)) = s
theorem plan_head (rs : List Rc.Rec) (b : BitVec 32) (first : Nat) (hb : b.getLsbD 0 = true) (hf : first < 128) :
    Plan rs b first 0 16 [] (runsL rs) (fun j l => Cx.turned (Hd.headL 1 7) b first j l) ⟨7, [], [], 0, 23⟩ where
  alen := rfl
  lohi := ⟨by omega, by omega, by omega⟩
  whole := ⟨Hd.headL 1 7, rfl, Cx.turned_zero _ _ _⟩
  len := fun j l h => by rw [h.1, Hd.headL_length]
  same := fun j l h hj hbj => Cx.turned_same h hj hbj
  bit := fun j l p q c h hj hbj hp hq hf => Cx.turned_bit h hj hbj hp hq (by omega)
  fin := fun j l h hj h0 => of_headless 7 h hj h0 hb (runsL rs)
theorem plan_run (rs : List Rc.Rec) (hup : Up 0 rs) (hr : (runsL rs).length ≤ 5800) (b : BitVec 32) (first t : Nat) (r : Rc.Rec) (hb : b.getLsbD 0 = true) (ht : rs[t]? = some r) (h1 : endN rs t ≤ first / 8) (h2 : first / 8 < endN rs (t + 1)) :
    Plan rs b first (endN rs t) (endN rs (t + 1)) (layB 7 (rs.take t)) (runsL (rs.drop (t + 1))) (fun j l => Rc.Turns (Rc.runL r) b (first - 8 * endN rs t) j l)
      (if first - 8 * endN rs t < 168 then ⟨7, places 16 (rs.take t), [], endN rs t, 23⟩ else ⟨7, places 16 (rs.take t) ++ places (endN rs (t + 1)) (rs.drop (t + 1)), [endN rs t], 16 + (runsL rs).length, 0⟩) where
  alen := by rw [layB_length]; rfl
  lohi := ⟨by omega, by omega, by
    have hlt : t < rs.length := (List.getElem?_eq_some_iff.1 ht).1
    have := endN_mono rs (i := t + 1) (j := rs.length) hlt
    rwa [endN_all (Nat.le_refl _)] at this⟩
  whole := by
    refine ⟨Rc.runL r, ?_, Rc.Turns.zero _ _ _⟩
    have hlt : t < rs.length := (List.getElem?_eq_some_iff.1 ht).1
    have e : rs = rs.take t ++ r :: rs.drop (t + 1) := by
      have hg : rs[t]'hlt = r := (List.getElem?_eq_some_iff.1 ht).2
      rw [← hg, ← List.drop_eq_getElem_cons hlt, List.take_append_drop]
    have e2 : layB 7 rs = layB 7 (rs.take t ++ r :: rs.drop (t + 1)) := by rw [← e]
    rw [e2]
    unfold layB
    rw [runsL_append]
    simp [runsL]
  len := fun j l h => by rw [h.1.1, Rc.runL_length, endN_step ht]; omega
  same := fun j l h hj hbj => h.same hj hbj
  bit := fun j l p q c h hj hbj hp hq hf => h.bit hj hbj hp hq (by omega)
  fin := fun j l h hj h0 => by
    have hlt : t < rs.length := (List.getElem?_eq_some_iff.1 ht).1
    have e : rs.take t ++ r :: rs.drop (t + 1) = rs := by
      have hg : rs[t]'hlt = r := (List.getElem?_eq_some_iff.1 ht).2
      rw [← hg, ← List.drop_eq_getElem_cons hlt, List.take_append_drop]
    have hm := hup.may r (List.mem_of_getElem? ht)
    have hz := size_pos r
    have := of_turned 7 (by decide) (rs.take t) (rs.drop (t + 1)) r (by rw [e]; exact hup) (by rw [e]; omega) l (if first - 8 * endN rs t < 168 then 0 else Rc.sizeN r) (by rw [h.1.1, Rc.runL_length]) (by split <;> simp) (fun m => Rc.get_turned hm h hj h0 hb m)
    rw [this, e]
    have e3 : endN rs (t + 1) = 16 + (runsL (rs.take t)).length + Rc.sizeN r := by rw [endN_step ht]; rfl
    by_cases hc : first - 8 * endN rs t < 168
    · rw [if_pos hc, if_pos hc, if_pos rfl]
      rfl
    · rw [if_neg hc, if_neg hc, if_neg (by omega), e3]
      rfl
end Go.Proofs.YtkpkfgcbccaibaaDoor.Sc

/- ScLsQ -/

/-
  ScanLost, plain mathematics: what is found then, and what may be lost.
-/
set_option linter.unusedVariables false
set_option linter.unusedSimpArgs false
namespace Go.Proofs.YtkpkfgcbccaibaaDoor.Sc
open Go.RowKit

/-- numbers rise along the runs -/
theorem seq_lt : ∀ {l : List Rc.Rec} {a : Int}, Up a l → ∀ {i j : Nat} {r q : Rc.Rec}, l[i]? = some r → l[j]? = some q → i < j → r.seq < q.seq
  | [], a, _, i, j, r, q, h1, _, _ => by simp at h1
  | x :: l, a, h, 0, j + 1, r, q, h1, h2, _ => by
    simp at h1
    subst h1
    exact (mem_le h.2.2 q (List.mem_of_getElem? (by simpa using h2))).1
  | x :: l, a, h, i + 1, j + 1, r, q, h1, h2, hij => seq_lt h.2.2 (by simpa using h1) (by simpa using h2) (by omega)
  | x :: l, a, h, i, 0, r, q, h1, h2, hij => by omega
theorem seq_ne {l : List Rc.Rec} (h : Up 0 l) {i j : Nat} {r q : Rc.Rec} (h1 : l[i]? = some r) (h2 : l[j]? = some q) (hij : i ≠ j) : r.seq ≠ q.seq := by
  rcases Nat.lt_or_gt_of_ne hij with hl | hl
  · have := seq_lt h h1 h2 hl; omega
  · have := seq_lt h h2 h1 hl; omega
/-- the number of the last of the k first -/
theorem lastOf_take {l : List Rc.Rec} {k : Nat} {r : Rc.Rec} (h : l[k]? = some r) (a : Int) : lastOf a (l.take (k + 1)) = r.seq := by
  rw [List.take_add_one, h, lastOf_append]
  rfl
theorem firstOf_get {l : List Rc.Rec} {r : Rc.Rec} (h : Up 0 l) (hr : l[0]? = some r) : ((firstOf (places 16 l) : Nat) : Int) = r.seq := by
  rcases l with _ | ⟨x, l⟩
  · simp at hr
  · simp at hr
    subst hr
    have := h.2.1
    show ((x.seq.toNat : Nat) : Int) = _
    rw [Int.toNat_of_nonneg (by omega)]
theorem lastF_get2 {l : List Rc.Rec} (h : Up 0 l) (hne : l ≠ []) : ((lastF (places 16 l) : Nat) : Int) = lastOf 0 l := by
  have := lastOf_ge h
  rw [lastF_places l 16 0 hne, Int.toNat_of_nonneg (by omega)]
structure Res (rs : List Rc.Rec) (lo : Nat) (hd : Bool) (s : S) (idx : List Nat) : Prop where
  id_ : s.id = 7
  stop : s.stop ≤ 6000
  few : s.found.length + s.passed.length ≤ rs.length
  found : s.found.length = idx.length ∧ ∀ (q i : Nat), idx[q]? = some i → ∃ r, rs[i]? = some r ∧ s.found[q]? = some ⟨endN rs i, Rc.sizeN r, r⟩
  want : ∀ i, i < rs.length → (i ∈ idx ↔ 16 ≤ lo ∧ endN rs i ≠ lo ∧ (endN rs i < lo ∨ hd = false))
  lost : (rs = [] ∧ lost s (wholeSeal 7 rs) = []) ∨ ∃ F L : Nat, lost s (wholeSeal 7 rs) = [((F : Int), (L : Int))] ∧ firstOf (places 16 rs) ≤ F ∧ F ≤ L ∧ L ≤ lastF (places 16 rs) ∧ ∀ (i : Nat) (r : Rc.Rec), rs[i]? = some r → (((F : Int) ≤ r.seq ∧ r.seq ≤ (L : Int)) ↔ ¬ i ∈ idx)
/-- the k first are found, and no more -/
theorem lost_k (rs : List Rc.Rec) (h : Up 0 rs) (hr : (runsL rs).length ≤ 5800) (k : Nat) (hk : k < rs.length) (st wy : Nat) (hst : st ≠ 16 + (runsL rs).length) :
    ∃ F L : Nat, lost ⟨7, places 16 (rs.take k), [], st, wy⟩ (wholeSeal 7 rs) = [((F : Int), (L : Int))] ∧ firstOf (places 16 rs) ≤ F ∧ F ≤ L ∧ L ≤ lastF (places 16 rs) ∧ ∀ (i : Nat) (r : Rc.Rec), rs[i]? = some r → (((F : Int) ≤ r.seq ∧ r.seq ≤ (L : Int)) ↔ ¬ i ∈ List.range k) := by
  have e : rs.take k ++ rs.drop k = rs := List.take_append_drop k rs
  have h2 : rs.drop k ≠ [] := by intro e2; have := congrArg List.length e2; rw [List.length_drop, List.length_nil] at this; omega
  have hr0 : rs ≠ [] := by rintro rfl; simp at hk
  have hl := lost_more 7 (rs.take k) (rs.drop k) (by rw [e]; exact h) h2 st wy (by rw [e]; exact hst)
  rw [e] at hl
  have hlast := lastF_get2 h hr0
  obtain ⟨r0, hr00⟩ : ∃ r, rs[0]? = some r := ⟨_, List.getElem?_eq_getElem (by omega)⟩
  obtain ⟨rk, hrk⟩ : ∃ r, rs[k]? = some r := ⟨_, List.getElem?_eq_getElem hk⟩
  have hfirst := firstOf_get h hr00
  have hkl := mem_le h rk (List.mem_of_getElem? hrk)
  rcases Nat.eq_zero_or_pos k with hk0 | hk0
  · subst hk0
    rw [if_pos (by simp)] at hl
    refine ⟨firstOf (places 16 rs), lastF (places 16 rs), ?_, Nat.le_refl _, ?_, Nat.le_refl _, fun i r hi => ?_⟩
    · rw [hl, hlast, List.drop_zero]
    · rw [hrk] at hr00
      injection hr00 with hr00
      subst hr00
      omega
    · have h3 := mem_le h r (List.mem_of_getElem? hi)
      have h4 : r0.seq ≤ r.seq := by
        rcases Nat.eq_zero_or_pos i with h0 | h0
        · subst h0; rw [hr00] at hi; injection hi with hi; subst hi; exact Int.le_refl _
        · exact Int.le_of_lt (seq_lt h hr00 hi h0)
      simp
      omega
  · obtain ⟨k', rfl⟩ : ∃ k', k = k' + 1 := ⟨k - 1, by omega⟩
    have hne : rs.take (k' + 1) ≠ [] := by intro e2; have := congrArg List.length e2; rw [List.length_take, List.length_nil] at this; omega
    obtain ⟨rp, hrp⟩ : ∃ r, rs[k']? = some r := ⟨_, List.getElem?_eq_getElem (by omega)⟩
    rw [if_neg hne, lastOf_take hrp] at hl
    have hp1 := mem_le h rp (List.mem_of_getElem? hrp)
    have hpk := seq_lt h hrp hrk (by omega)
    have h0p : r0.seq ≤ rp.seq := by
      rcases Nat.eq_zero_or_pos k' with h0 | h0
      · subst h0; rw [hr00] at hrp; injection hrp with hrp; subst hrp; exact Int.le_refl _
      · exact Int.le_of_lt (seq_lt h hr00 hrp h0)
    refine ⟨(rp.seq + 1).toNat, lastF (places 16 rs), ?_, by omega, by omega, Nat.le_refl _, fun i r hi => ?_⟩
    · rw [hl, hlast, Int.toNat_of_nonneg (by omega)]
    · have h3 := mem_le h r (List.mem_of_getElem? hi)
      rw [Int.toNat_of_nonneg (by omega), List.mem_range]
      rcases Nat.lt_or_ge i (k' + 1) with hlt | hge
      · have : r.seq ≤ rp.seq := by
          rcases Nat.lt_or_ge i k' with h0 | h0
          · exact Int.le_of_lt (seq_lt h hi hrp h0)
          · obtain rfl : i = k' := by omega
            rw [hrp] at hi; injection hi with hi; subst hi; exact Int.le_refl _
        omega
      · have := seq_lt h hrp hi (by omega)
        omega
theorem found_k (rs : List Rc.Rec) (k : Nat) (hk : k ≤ rs.length) : (places 16 (rs.take k)).length = (List.range k).length ∧ ∀ (q i : Nat), (List.range k)[q]? = some i → ∃ r, rs[i]? = some r ∧ (places 16 (rs.take k))[q]? = some ⟨endN rs i, Rc.sizeN r, r⟩ := by
  refine ⟨by rw [places_length, List.length_take, List.length_range]; omega, fun q i hq => ?_⟩
  have hqk : q < k := by
    have := (List.getElem?_eq_some_iff.1 hq).1
    rwa [List.length_range] at this
  rw [List.getElem?_range hqk] at hq
  injection hq with hq
  subst hq
  obtain ⟨r, hr⟩ : ∃ r, rs[q]? = some r := ⟨_, List.getElem?_eq_getElem (by omega)⟩
  exact ⟨r, hr, by rw [places_take, List.getElem?_take, if_pos hqk]; exact places_endN hr⟩
theorem res_head (rs : List Rc.Rec) (h : Up 0 rs) (hr : (runsL rs).length ≤ 5800) : Res rs 0 true ⟨7, [], [], 0, 23⟩ [] where
  id_ := rfl
  stop := Nat.zero_le _
  few := Nat.zero_le _
  found := ⟨rfl, fun q i hq => by simp at hq⟩
  want := fun i hi => by simp
  lost := by
    rcases Nat.eq_zero_or_pos rs.length with h0 | h0
    · obtain rfl : rs = [] := List.length_eq_zero_iff.1 h0
      exact .inl ⟨rfl, rfl⟩
    · obtain ⟨F, L, h1, h2, h3, h4, h5⟩ := lost_k rs h hr 0 h0 0 23 (by omega)
      exact .inr ⟨F, L, by simpa [places] using h1, h2, h3, h4, fun i r hi => by simpa using h5 i r hi⟩
theorem res_torn (rs : List Rc.Rec) (h : Up 0 rs) (hr : (runsL rs).length ≤ 5800) (t : Nat) (ht : t < rs.length) : Res rs (endN rs t) true ⟨7, places 16 (rs.take t), [], endN rs t, 23⟩ (List.range t) where
  id_ := rfl
  stop := by
    have := endN_mono rs (i := t) (j := rs.length) (by omega)
    rw [endN_all (Nat.le_refl _)] at this
    show endN rs t ≤ 6000
    omega
  few := by show (places 16 (rs.take t)).length + 0 ≤ _; rw [places_length, List.length_take]; omega
  found := found_k rs t (by omega)
  want := fun i hi => by
    have h16 := endN_mono rs (Nat.zero_le t)
    rw [endN_zero] at h16
    rw [List.mem_range]
    constructor
    · intro hit
      have := endN_lt hit (by omega) (l := rs)
      exact ⟨h16, by omega, .inl this⟩
    · rintro ⟨_, hne, hlt | hlt⟩
      · rcases Nat.lt_or_ge i t with h1 | h1
        · exact h1
        · have := endN_mono rs h1; omega
      · cases hlt
  lost := by
    have hlt := endN_lt (l := rs) ht (Nat.le_refl _)
    rw [endN_all (Nat.le_refl _)] at hlt
    obtain ⟨F, L, h1, h2, h3, h4, h5⟩ := lost_k rs h hr t ht (endN rs t) 23 (by omega)
    exact .inr ⟨F, L, h1, h2, h3, h4, h5⟩
theorem endN_add (l : List Rc.Rec) (a b : Nat) : endN l (a + b) = endN l a + (runsL ((l.drop a).take b)).length := by
  unfold endN
  rw [List.take_add, runsL_append, List.length_append]
  omega
/-- all but number t -/
def butT (t m : Nat) : List Nat := List.range t ++ (List.range (m - (t + 1))).map (· + (t + 1))
theorem mem_butT {t m i : Nat} (hi : i < m) (ht : t < m) : i ∈ butT t m ↔ i ≠ t := by
  unfold butT
  rw [List.mem_append, List.mem_range, List.mem_map]
  constructor
  · rintro (h | ⟨a, _, h⟩) <;> omega
  · intro h
    rcases Nat.lt_or_ge i t with h1 | h1
    · exact .inl h1
    · exact .inr ⟨i - (t + 1), by rw [List.mem_range]; omega, by omega⟩
theorem res_turned (rs : List Rc.Rec) (h : Up 0 rs) (hr : (runsL rs).length ≤ 5800) (t : Nat) (r : Rc.Rec) (ht : rs[t]? = some r) :
    Res rs (endN rs t) false ⟨7, places 16 (rs.take t) ++ places (endN rs (t + 1)) (rs.drop (t + 1)), [endN rs t], 16 + (runsL rs).length, 0⟩ (butT t rs.length) where
  id_ := rfl
  stop := by show 16 + (runsL rs).length ≤ 6000; omega
  few := by
    have hlt : t < rs.length := (List.getElem?_eq_some_iff.1 ht).1
    show (places 16 (rs.take t) ++ places (endN rs (t + 1)) (rs.drop (t + 1))).length + 1 ≤ _
    rw [List.length_append, places_length, places_length, List.length_take, List.length_drop]
    omega
  found := by
    have hlt : t < rs.length := (List.getElem?_eq_some_iff.1 ht).1
    refine ⟨?_, fun q i hq => ?_⟩
    · show (places 16 (rs.take t) ++ places (endN rs (t + 1)) (rs.drop (t + 1))).length = _
      unfold butT
      rw [List.length_append, places_length, places_length, List.length_take, List.length_drop, List.length_append, List.length_map, List.length_range, List.length_range]
      omega
    · unfold butT at hq
      rcases Nat.lt_or_ge q t with hqt | hqt
      · rw [List.getElem?_append_left (by rw [List.length_range]; exact hqt)] at hq
        obtain ⟨r', h1, h2⟩ := (found_k rs t (by omega)).2 q i hq
        refine ⟨r', h1, ?_⟩
        show (places 16 (rs.take t) ++ places (endN rs (t + 1)) (rs.drop (t + 1)))[q]? = _
        rw [List.getElem?_append_left (by rw [places_length, List.length_take]; omega)]
        exact h2
      · rw [List.getElem?_append_right (by rw [List.length_range]; exact hqt), List.length_range, List.getElem?_map] at hq
        have hq2 : q - t < rs.length - (t + 1) := by
          rcases hh : (List.range (rs.length - (t + 1)))[q - t]? with _ | a
          · rw [hh] at hq; cases hq
          · have := (List.getElem?_eq_some_iff.1 hh).1
            rwa [List.length_range] at this
        rw [List.getElem?_range hq2] at hq
        have hq : q - t + (t + 1) = i := by simpa using hq
        have hi : i = t + 1 + (q - t) := by omega
        obtain ⟨r', hr'⟩ : ∃ r', rs[i]? = some r' := ⟨_, List.getElem?_eq_getElem (by omega)⟩
        refine ⟨r', hr', ?_⟩
        show (places 16 (rs.take t) ++ places (endN rs (t + 1)) (rs.drop (t + 1)))[q]? = _
        rw [List.getElem?_append_right (by rw [places_length, List.length_take]; omega), places_length, List.length_take, show min t rs.length = t by omega]
        have hd : (rs.drop (t + 1))[q - t]? = some r' := by rw [List.getElem?_drop, ← hi]; exact hr'
        rw [places_at _ hd, hi, endN_add rs (t + 1) (q - t)]
  want := fun i hi => by
    have hlt : t < rs.length := (List.getElem?_eq_some_iff.1 ht).1
    have h16 := endN_mono rs (Nat.zero_le t)
    rw [endN_zero] at h16
    rw [mem_butT hi hlt]
    constructor
    · intro hne
      refine ⟨h16, ?_, .inr rfl⟩
      rcases Nat.lt_or_gt_of_ne hne with h1 | h1
      · have := endN_lt h1 (by omega) (l := rs); omega
      · have := endN_lt h1 (by omega) (l := rs); omega
    · rintro ⟨_, hne, _⟩ rfl
      exact hne rfl
  lost := by
    have hlt : t < rs.length := (List.getElem?_eq_some_iff.1 ht).1
    have hr0 : rs ≠ [] := by rintro rfl; simp at hlt
    have e : rs.take t ++ r :: rs.drop (t + 1) = rs := by
      have hg : rs[t]'hlt = r := (List.getElem?_eq_some_iff.1 ht).2
      rw [← hg, ← List.drop_eq_getElem_cons hlt, List.take_append_drop]
    have hE : 16 + (runsL (rs.take t)).length + Rc.sizeN r = endN rs (t + 1) := by rw [endN_step ht]; rfl
    have key : ∀ l1 l2 rs', l1 ++ r :: l2 = rs' → Up 0 rs' → lost ⟨7, places 16 l1 ++ places (16 + (runsL l1).length + Rc.sizeN r) l2, [16 + (runsL l1).length], 16 + (runsL rs').length, 0⟩ (wholeSeal 7 rs') = [(if l1 = [] then r.seq else lastOf 0 l1 + 1, match l2 with | [] => r.seq | x :: _ => x.seq - 1)] := by
      rintro l1 l2 rs' rfl hu
      have := lost_turned 7 l1 l2 r hu
      rcases l2 with _ | ⟨x, l2⟩ <;> exact this
    have hl := key _ _ _ e h
    rw [hE] at hl
    have hl : lost ⟨7, places 16 (rs.take t) ++ places (endN rs (t + 1)) (rs.drop (t + 1)), [endN rs t], 16 + (runsL rs).length, 0⟩ (wholeSeal 7 rs) = _ := hl
    have hlast := lastF_get2 h hr0
    obtain ⟨r0, hr00⟩ : ∃ r, rs[0]? = some r := ⟨_, List.getElem?_eq_getElem (by omega)⟩
    have hfirst := firstOf_get h hr00
    have hm := mem_le h r (List.mem_of_getElem? ht)
    have le_of : ∀ {i j : Nat} {a b : Rc.Rec}, rs[i]? = some a → rs[j]? = some b → i ≤ j → a.seq ≤ b.seq := by
      intro i j a b ha hb hij
      rcases Nat.lt_or_ge i j with h1 | h1
      · exact Int.le_of_lt (seq_lt h ha hb h1)
      · obtain rfl : i = j := by omega
        rw [ha] at hb; injection hb with hb; subst hb; exact Int.le_refl _
    have h0r := le_of hr00 ht (Nat.zero_le _)
    -- where it begins
    have hF : ∃ F : Nat, (if rs.take t = [] then r.seq else lastOf 0 (rs.take t) + 1) = (F : Int) ∧ r0.seq ≤ (F : Int) ∧ (F : Int) ≤ r.seq ∧ ∀ (i : Nat) (a : Rc.Rec), rs[i]? = some a → i < t → a.seq < (F : Int) := by
      rcases Nat.eq_zero_or_pos t with h0 | h0
      · subst h0
        refine ⟨r.seq.toNat, by rw [if_pos (by simp)]; omega, ?_, by omega, fun i a _ hi => by omega⟩
        omega
      · obtain ⟨t', rfl⟩ : ∃ t', t = t' + 1 := ⟨t - 1, by omega⟩
        obtain ⟨rp, hrp⟩ : ∃ a, rs[t']? = some a := ⟨_, List.getElem?_eq_getElem (by omega)⟩
        have hne : rs.take (t' + 1) ≠ [] := by intro e2; have := congrArg List.length e2; rw [List.length_take, List.length_nil] at this; omega
        have hp := mem_le h rp (List.mem_of_getElem? hrp)
        have h1 := seq_lt h hrp ht (by omega)
        have h2 := le_of hr00 hrp (Nat.zero_le _)
        refine ⟨(rp.seq + 1).toNat, by rw [if_neg hne, lastOf_take hrp]; omega, by omega, by omega, fun i a ha hi => ?_⟩
        have := le_of ha hrp (by omega)
        omega
    have hL : ∃ L : Nat, (match rs.drop (t + 1) with | [] => r.seq | x :: _ => x.seq - 1) = (L : Int) ∧ r.seq ≤ (L : Int) ∧ (L : Int) ≤ lastOf 0 rs ∧ ∀ (i : Nat) (a : Rc.Rec), rs[i]? = some a → t < i → (L : Int) < a.seq := by
      rcases hd : rs.drop (t + 1) with _ | ⟨x, l2⟩
      · have hlen : rs.length ≤ t + 1 := List.drop_eq_nil_iff.1 hd
        exact ⟨r.seq.toNat, by simp only; omega, by omega, by omega, fun i a ha hi => by have := (List.getElem?_eq_some_iff.1 ha).1; omega⟩
      · have hx : rs[t + 1]? = some x := by
          have := congrArg (·[0]?) hd
          rw [List.getElem?_drop] at this
          simpa using this
        have h1 := seq_lt h ht hx (by omega)
        have h2 := (mem_le h x (List.mem_of_getElem? hx))
        refine ⟨(x.seq - 1).toNat, by simp only; omega, by omega, by omega, fun i a ha hi => ?_⟩
        have := le_of hx ha (by omega)
        omega
    obtain ⟨F, e1, f1, f2, f3⟩ := hF
    obtain ⟨L, e2, l1, l2, l3⟩ := hL
    rw [e1, e2] at hl
    refine .inr ⟨F, L, hl, by omega, by omega, by omega, fun i a ha => ?_⟩
    have hi := (List.getElem?_eq_some_iff.1 ha).1
    rw [mem_butT hi hlt]
    constructor
    · rintro ⟨q1, q2⟩ hne
      rcases Nat.lt_or_gt_of_ne hne with h1 | h1
      · have := f3 i a ha h1; omega
      · have := l3 i a ha h1; omega
    · intro hne
      obtain rfl : i = t := Classical.byContradiction hne
      rw [ha] at ht; injection ht with ht; subst ht
      exact ⟨f2, l1⟩
/-- whatever is turned -/
theorem plan_any (rs : List Rc.Rec) (hup : Up 0 rs) (hr : (runsL rs).length ≤ 5800) (b : BitVec 32) (first T : Nat) (hb : b.getLsbD 0 = true) (hf : first < 8 * (16 + (runsL rs).length)) (hT : T ≤ rs.length) (hi : ∀ i, i < rs.length → (endN rs i ≤ first / 8 ↔ i < T)) :
    ∃ (A C : List UInt8) (P : Nat → List UInt8 → Prop) (s : S) (idx : List Nat) (lo hi : Nat) (hd : Bool), Plan rs b first lo hi A C P s ∧ Res rs lo hd s idx ∧ (T = 0 → lo = 0 ∧ hi = 16 ∧ hd = true) ∧ (0 < T → lo = endN rs (T - 1) ∧ hi = endN rs T ∧ hd = decide (first / 8 < endN rs (T - 1) + 21)) := by
  rcases Nat.eq_zero_or_pos T with h0 | h0
  · subst h0
    have h128 : first < 128 := by
      rcases Nat.eq_zero_or_pos rs.length with h1 | h1
      · have : rs = [] := List.length_eq_zero_iff.1 h1
        subst this
        simp [runsL] at hf
        exact hf
      · have := (hi 0 h1)
        rw [endN_zero] at this
        have h2 : ¬ 16 ≤ first / 8 := fun h => by have := this.1 h; omega
        omega
    exact ⟨_, _, _, _, _, 0, 16, true, plan_head rs b first hb h128, res_head rs hup hr, fun _ => ⟨rfl, rfl, rfl⟩, fun h => by omega⟩
  · obtain ⟨t, rfl⟩ : ∃ t, T = t + 1 := ⟨T - 1, by omega⟩
    obtain ⟨r, ht⟩ : ∃ r, rs[t]? = some r := ⟨_, List.getElem?_eq_getElem (by omega)⟩
    have h1 : endN rs t ≤ first / 8 := (hi t (by omega)).2 (by omega)
    have h2 : first / 8 < endN rs (t + 1) := by
      rcases Nat.lt_or_ge (t + 1) rs.length with hl | hl
      · exact Nat.lt_of_not_le fun h => by have := (hi (t + 1) hl).1 h; omega
      · rw [endN_all hl]; omega
    have hp := plan_run rs hup hr b first t r hb ht h1 h2
    by_cases hc : first - 8 * endN rs t < 168
    · rw [if_pos hc] at hp
      exact ⟨_, _, _, _, _, _, _, true, hp, res_torn rs hup hr t (by omega), fun h => by omega, fun _ => ⟨rfl, rfl, (decide_eq_true (by show first / 8 < endN rs t + 21; omega)).symm⟩⟩
    · rw [if_neg hc] at hp
      exact ⟨_, _, _, _, _, _, _, false, hp, res_turned rs hup hr t r ht, fun h => by omega, fun _ => ⟨rfl, rfl, (decide_eq_false (by show ¬ (first / 8 < endN rs t + 21); omega)).symm⟩⟩
end Go.Proofs.YtkpkfgcbccaibaaDoor.Sc

