/-
  ScanMore, part 15 of what the law's proof leans on: ScLaw.
-/
import Derived.Test.YtkpkfgcbccaibaaDoorScanMoreQ14
import Derived.Test.YtkpkfgcbccaibaaDoorScanMoreQ13
/- ScLaw -/

/-
  Layer 12: what the laws' walks share.
-/
set_option linter.unusedVariables false
set_option linter.unusedSimpArgs false
namespace Go.Proofs.YtkpkfgcbccaibaaDoor.Sc
open Go Go.RowKit Go.Proofs.YtkpkfgcbccaibaaDoor

theorem seal_fits {s : S} (h : Rise s) (h1 : s.id < 4294967296) (h2 : s.stop < 4294967296) (h3 : s.found.length + s.passed.length < 4294967296) : (seal_ s).Fits := by
  have hl : lastF s.found < 18446744073709551616 := by
    by_cases hne : s.found = []
    · rw [hne]; decide
    · obtain ⟨f, hf, e⟩ := lastF_mem hne
      have := h.num f hf
      rw [e]
      omega
  have hf : firstOf s.found < 18446744073709551616 := by
    rcases hne : s.found with _ | ⟨f, fs⟩
    · decide
    · have := h.num f (by rw [hne]; simp)
      show f.r.seq.toNat < _
      omega
  exact ⟨h1, h2, h3, hf, hl⟩
theorem rowL12_get : ∀ {l : List Fd} {j : Nat} {f : Fd}, l[j]? = some f → (rowL12 l)[j * 3]? = some (.int .i64 (f.off : Int)) ∧ (rowL12 l)[j * 3 + 1]? = some (.int .i64 ((f.off + f.size : Nat) : Int)) ∧ (rowL12 l)[j * 3 + 2]? = some (.int .u64 f.r.seq)
  | [], j, f, h => by simp at h
  | x :: l, 0, f, h => by
    simp at h
    subst h
    exact ⟨rfl, rfl, rfl⟩
  | x :: l, j + 1, f, h => by
    have := rowL12_get (l := l) (j := j) (by simpa using h)
    have e : rowL12 (x :: l) = [.int .i64 (x.off : Int), .int .i64 ((x.off + x.size : Nat) : Int), .int .u64 x.r.seq] ++ rowL12 l := rfl
    have e0 : (j + 1) * 3 = j * 3 + 2 + 1 := by omega
    rw [e, e0]
    exact this
theorem of_all {rs : List Rc.Rec} {n : Nat} (hid : Hd.mayB ((1 : Nat) : Int) 7 = true) (h : Up 0 rs) (hr : (runsL rs).length ≤ 5800) (hn : n = 16 + (runsL rs).length) : of 7 (layB 7 rs) = ⟨7, places 16 rs, [], n, 0⟩ := by
  have := of_lay 7 hid rs [] h (by omega) (.inl rfl)
  rw [List.append_nil, if_pos rfl] at this
  rw [this, hn]
theorem take_endN (l : List Rc.Rec) (k : Nat) : (layB 7 l).take (endN l k) = layB 7 (l.take k) := by
  have h : runsL l = runsL (l.take k) ++ runsL (l.drop k) := by rw [← runsL_append, List.take_append_drop]
  have e : layB 7 l = layB 7 (l.take k) ++ runsL (l.drop k) := by unfold layB; rw [h, List.append_assoc]
  rw [e]
  have e2 : endN l k = (layB 7 (l.take k)).length := by rw [layB_length]; rfl
  rw [e2, List.take_left' rfl]
theorem of_part {rs : List Rc.Rec} {k en : Nat} (hid : Hd.mayB ((1 : Nat) : Int) 7 = true) (h : Up 0 rs) (hr : (runsL rs).length ≤ 5800) (hk : k ≤ rs.length) (hn : en = endN rs k) : of 7 ((layB 7 rs).take en) = ⟨7, places 16 (rs.take k), [], en, 0⟩ := by
  have h1 := endN_mono rs hk
  rw [endN_all (Nat.le_refl _)] at h1
  have := of_lay 7 hid (rs.take k) [] (h.take k) (by unfold endN at h1; omega) (.inl rfl)
  rw [List.append_nil, if_pos rfl] at this
  rw [hn, take_endN, this]
  rfl
theorem more_facts {rs : List Rc.Rec} {k m : Nat} (h : Up 0 rs) (hm : rs.length = m) (hk : k ≤ m) : (0 < k → firstOf (places 16 (rs.take k)) = firstOf (places 16 rs)) ∧ lastF (places 16 (rs.take k)) ≤ lastF (places 16 rs) ∧ lastF (places 16 rs) ≤ 1099511627776 := by
  refine ⟨fun hk0 => ?_, ?_, ?_⟩
  · rcases rs with _ | ⟨x, l⟩
    · simp at hm; omega
    · rcases k with _ | k
      · omega
      · rfl
  · by_cases h0 : rs.take k = []
    · rw [h0]; exact Nat.zero_le _
    · have hr0 : rs ≠ [] := fun e => h0 (by rw [e, List.take_nil])
      rw [lastF_places _ 16 0 h0, lastF_places _ 16 0 hr0]
      have e : rs = rs.take k ++ rs.drop k := (List.take_append_drop k rs).symm
      have u : Up 0 (rs.take k ++ rs.drop k) := by rw [← e]; exact h
      have h1 := lastOf_ge (u.append).2
      rw [← lastOf_append, ← e] at h1
      omega
  · by_cases h0 : rs = []
    · rw [h0]; decide
    · rw [lastF_places _ 16 0 h0]
      have : ∀ (l : List Rc.Rec) (a : Int), Up a l → l ≠ [] → lastOf a l ≤ 1099511627776 := by
        intro l
        induction l with
        | nil => intro a _ h; exact absurd rfl h
        | cons x l ih =>
          intro a hu _
          by_cases hl : l = []
          · subst hl
            have := hu.1
            simp [Rc.mayB] at this
            simp only [lastOf]
            omega
          · exact ih _ hu.2.2 hl
      have := this rs 0 h h0
      omega
theorem seal_whole {rs : List Rc.Rec} {n : Nat} (hn : n = 16 + (runsL rs).length) : seal_ ⟨7, places 16 rs, [], n, 0⟩ = wholeSeal 7 rs := by
  unfold seal_ wholeSeal
  simp only [places_length, List.length_nil, Nat.add_zero]
  rw [← hn]
theorem more_own {rs : List Rc.Rec} {k m n en : Nat} (h : Up 0 rs) (hm : rs.length = m) (hk : k = m) (hen : en = endN rs k) (hn : n = 16 + (runsL rs).length) : lost ⟨7, places 16 (rs.take k), [], en, 0⟩ (seal_ ⟨7, places 16 rs, [], n, 0⟩) = [] := by
  have e1 : rs.take k = rs := List.take_of_length_le (by omega)
  have e2 : en = n := by rw [hen, endN_all (by omega), hn]
  rw [e1, e2]
  exact lost_own _ rfl rfl (by rw [seal_whole hn]; exact strange_sub h (fun f hf => (places_off rs 16 f hf).2.2.2) [] n 0)
theorem more_lost {rs : List Rc.Rec} {k m n en : Nat} (h : Up 0 rs) (hm : rs.length = m) (hk : k < m) (hen : en = endN rs k) (hn : n = 16 + (runsL rs).length) :
    lost ⟨7, places 16 (rs.take k), [], en, 0⟩ (seal_ ⟨7, places 16 rs, [], n, 0⟩) = [(((if k = 0 then firstOf (places 16 rs) else lastF (places 16 (rs.take k)) + 1 : Nat) : Int), ((lastF (places 16 rs) : Nat) : Int))] := by
  have e : rs.take k ++ rs.drop k = rs := List.take_append_drop k rs
  have h2 : rs.drop k ≠ [] := by intro e2; have := congrArg List.length e2; rw [List.length_drop, List.length_nil] at this; omega
  have hr0 : rs ≠ [] := by rintro rfl; simp at hm; omega
  have hlt := endN_lt (l := rs) (i := k) (j := rs.length) (by omega) (Nat.le_refl _)
  rw [endN_all (Nat.le_refl _), ← hen] at hlt
  have := lost_more 7 (rs.take k) (rs.drop k) (by rw [e]; exact h) h2 en 0 (by rw [e]; omega)
  rw [e] at this
  rw [seal_whole hn, this]
  have hl := lastOf_ge h
  congr 2
  · by_cases hk0 : k = 0
    · subst hk0
      rw [if_pos rfl, if_pos (by simp)]
      simp
    · have hne : rs.take k ≠ [] := by intro e2; have := congrArg List.length e2; rw [List.length_take, List.length_nil] at this; omega
      have hl1 := lastOf_ge (h.take k)
      rw [if_neg hk0, if_neg hne, lastF_places _ 16 0 hne]
      omega
  · rw [lastF_places _ 16 0 hr0]
    omega
/-- a record found, in memory: its nine cells -/
theorem found_cells {w : World} {lo n cf : Nat} {A : Option Addr} {q : List Fq} {fs : List Fd} (ho : w.ownsRow lo 52 9 (.slice A n cf) n (rowF 7 q)) (hf : ∀ x ∈ q, FqOk w lo x) (hq : q.map (·.1) = fs) (hn : 0 < n) {j : Nat} {f : Fd} (hj : fs[j]? = some f) :
    ∃ g Ak nk ck Av nv cv, A = some ⟨g, 0, none⟩ ∧ lo ≤ g ∧ w.cell? ⟨g, j * 9, none⟩ = some (.int .u32 7) ∧ w.cell? ⟨g, j * 9 + 1, none⟩ = some (.int .u32 (f.off : Int)) ∧ w.cell? ⟨g, j * 9 + 2, none⟩ = some (.int .i64 (f.size : Int)) ∧ w.cell? ⟨g, j * 9 + 3, none⟩ = some (.int .u64 f.r.seq) ∧ w.cell? ⟨g, j * 9 + 4, none⟩ = some (.int .i64 f.r.kind) ∧
      w.cell? ⟨g, j * 9 + 5, none⟩ = some (.slice Ak nk ck) ∧ w.cell? ⟨g, j * 9 + 6, none⟩ = some (.slice Av nv cv) ∧ w.cell? ⟨g, j * 9 + 7, none⟩ = some (.int .u32 f.r.seg) ∧ w.cell? ⟨g, j * 9 + 8, none⟩ = some (.int .u32 f.r.off) ∧ RowIn w lo (.slice Ak nk ck) f.r.key ∧ RowIn w lo (.slice Av nv cv) f.r.val := by
  obtain ⟨g, rfl, hg⟩ := own_at ho hn
  obtain ⟨xq, hxq⟩ : ∃ x, q[j]? = some x := by
    subst hq
    rw [List.getElem?_map] at hj
    rcases h : q[j]? with _ | x
    · rw [h] at hj; cases hj
    · exact ⟨x, rfl⟩
  have hx1 : xq.1 = f := by
    have h1 : (q.map (·.1))[j]? = some xq.1 := by rw [List.getElem?_map, hxq]; rfl
    rw [hq] at h1
    exact Option.some.inj (h1.symm.trans hj)
  have hfq := hf xq (List.mem_of_getElem? hxq)
  obtain ⟨fd, kv, vv⟩ := xq
  have hx1 : fd = f := hx1
  subst hx1
  have h5 := hfq.key
  have h6 := hfq.val
  dsimp only at h5 h6
  obtain ⟨Ak, nk, ck, rfl⟩ : ∃ A n c, kv = .slice A n c := by rcases h5 with ⟨h1, _⟩ | ⟨g, h1, _⟩ <;> exact ⟨_, _, _, h1⟩
  obtain ⟨Av, nv, cv, rfl⟩ : ∃ A n c, vv = .slice A n c := by rcases h6 with ⟨h1, _⟩ | ⟨g, h1, _⟩ <;> exact ⟨_, _, _, h1⟩
  have F := fun k (hk : k < 9) => rowF_get (id := 7) hxq k hk
  have c0 := ho.cells (g := g) rfl (j * 9) _ (F 0 (by decide))
  have c1 := ho.cells (g := g) rfl (j * 9 + 1) _ (F 1 (by decide))
  have c2 := ho.cells (g := g) rfl (j * 9 + 2) _ (F 2 (by decide))
  have c3 := ho.cells (g := g) rfl (j * 9 + 3) _ (F 3 (by decide))
  have c4 := ho.cells (g := g) rfl (j * 9 + 4) _ (F 4 (by decide))
  have c5 := ho.cells (g := g) rfl (j * 9 + 5) _ (F 5 (by decide))
  have c6 := ho.cells (g := g) rfl (j * 9 + 6) _ (F 6 (by decide))
  have c7 := ho.cells (g := g) rfl (j * 9 + 7) _ (F 7 (by decide))
  have c8 := ho.cells (g := g) rfl (j * 9 + 8) _ (F 8 (by decide))
  rw [addr_add1] at c0 c1 c2 c3 c4 c5 c6 c7 c8
  exact ⟨g, Ak, nk, ck, Av, nv, cv, rfl, hg, c0, c1, c2, c3, c4, c5, c6, c7, c8, h5, h6⟩
theorem AtScan.of_lit {W : World} {B g : Nat} {s : S} {Af Ap : Option Addr} {nf cf np cp : Nat} {i st wy : Int} (h : TellS W B (.agg #[.int .u32 i, .slice Af nf cf, .slice Ap np cp, .int .i64 st, .int .i64 wy]) s) (hg : B ≤ g)
    (hk : W.heap[g]? = some (.cells #[.int .u32 i, .slice Af nf cf, .slice Ap np cp, .int .i64 st, .int .i64 wy] 31 (0, 0))) : AtScan W B g s := by
  obtain ⟨lo, h1, h2⟩ := h
  obtain ⟨rfl, rfl, rfl, rfl, rfl⟩ := h2.cells
  exact ⟨hg, lo, _, _, _, _, h1, hk, h2⟩
end Go.Proofs.YtkpkfgcbccaibaaDoor.Sc

