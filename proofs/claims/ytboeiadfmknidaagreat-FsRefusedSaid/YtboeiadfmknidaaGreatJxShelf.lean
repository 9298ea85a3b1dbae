
/-
  Layer 7: what the laws use of the shelf: slices.Clone of numbers, slices.Equal of names, a map of names whose keys are at 1, cleared; a mask.
-/
import Derived.Test.YtboeiadfmknidaaGreatFxAt
import Derived.Test.YtboeiadfmknidaaGreatRegion
import Derived.Maps.OwnSet
import Derived.Maps.Range
import Derived.Laws.Cover3
import Derived.MapFrom
import Derived.Deep.LoopGhost
import Derived.Deep.RegionHeld3
set_option linter.unusedVariables false
set_option linter.unusedSimpArgs false
namespace Go.Proofs.YtboeiadfmknidaaGreat
open Go.RowKit Go.Maps

theorem int_info7 : (Tryz.prog.info? 3).map (fun i => (i.zero, i.size, i.bytes)) = some (some (.int .i64 0), 1, 8) := by kernel_rfl
/-- numbers as cells -/
def ivs (l : List Int) : List Value := l.map (Value.int .i64)
theorem ivs_one (l : List Int) : ∀ u ∈ ivs l, u.oneCell' = true := by
  intro u hu
  obtain ⟨x, _, rfl⟩ := List.mem_map.1 hu
  rfl
set_option maxRecDepth 100000 in
/-- slices.Clone of numbers -/
theorem hcloneI {w : World} {v : Value} {l : List Int} (h : Ints w w.heap.size .i64 v l) (hn : l.length * 8 ≤ 140737488351232) :
    Calls Tryz.prog 15 #[v] w fun e w' => ∃ r, e = .returned r ∧ w'.ownsRow w.heap.size 3 1 r l.length (ivs l) ∧ Below w.heap.size w w' := by
  obtain ⟨i0, hi0, hz0, hz1, hz2⟩ := info_parts int_info7
  obtain ⟨A, c, rfl, hc, hrd⟩ := h
  obtain ⟨n, hnn⟩ : ∃ n, n = l.length := ⟨_, rfl⟩
  have hq := @Lib.run_eql_slice_nil Tryz.prog
  have H1 := Lib.hid (ivs_one l)
  have hxl : (ivs l).length = n * 1 := by rw [hnn]; simp [ivs]
  rcases A with _ | a
  · have hl : l = [] := by
      rcases l with _ | ⟨x, r⟩
      · rfl
      · obtain ⟨b, o, h, _⟩ := hrd (by simp)
        cases h
    subst hl
    clear hrd hnn hxl H1
    go_enter Tryz.func15, Tryz.ntmps15
    go_wp2
    go_ret
    exact ⟨_, rfl, World.ownsRow_nil _ _ _ _, Below.refl _ _⟩
  · have hown0 : (w.alloc (Obj.cells #[] 3)).ownsRow w.heap.size 3 1 (.slice (some ⟨w.heap.size, 0, none⟩) 0 0) 0 [] := World.ownsRow_lit w #[] 0 (Nat.le_refl _) (Nat.zero_le _) rfl
    have Hr : Hid (Rd w w.heap.size (some a) (ivs l)) := hrd
    rw [← hnn] at hn ⊢
    clear hrd hnn hc
    go_enter Tryz.func15, Tryz.ntmps15
    go_wp2_with (at_builtin; (refine wpList_append_rd _ rfl _ _ 24 rfl w.heap.size 3 i0 (.int .i64 0) 1 8 Tryz.underlying24 hi0 hz0 hz1 hz2 rfl (by omega) (.slice (some ⟨w.heap.size, 0, none⟩) 0 0) 0 [] rfl hown0 w.heap.size (some a) n c (ivs l) rfl (by omega) (Hr.out.alloc (Nat.le_refl _) _) H1.out (by unfold maxLen; omega) (by omega) (by simp) ?_); intro v1 w1 hown1 hbw1 _ _)
    go_ret
    exact ⟨v1, rfl, by simpa using hown1, ((Below.refl _ _).alloc (Nat.le_refl _) _).trans hbw1⟩

/-- strings as cells -/
def svs (l : List ByteArray) : List Value := l.map Value.string
theorem svs_get {l : List ByteArray} {k : Nat} {x : ByteArray} (h : l[k]? = some x) : (svs l)[k]? = some (.string x) := by simp [svs, h]
theorem svs_length (l : List ByteArray) : (svs l).length = l.length := by simp [svs]
theorem svs_append (l m : List ByteArray) : svs (l ++ m) = svs l ++ svs m := by simp [svs]
theorem svs_one (l : List ByteArray) : ∀ u ∈ svs l, u.oneCell' = true := by
  intro u hu
  obtain ⟨x, _, rfl⟩ := List.mem_map.1 hu
  rfl
/-- The value v is a slice that reads as the strings l, out of a block of R. -/
def SsR (w : World) (R : Nat → Prop) (v : Value) (l : List ByteArray) : Prop := ∃ A c, v = .slice A l.length c ∧ l.length ≤ c ∧ c ≤ maxLen ∧ RdR w R A (svs l)
section
variable {w w' : World} {R R' M : Nat → Prop} {v : Value} {l : List ByteArray}
theorem SsR.chg (h : SsR w R v l) (hc : Chg M w w') (hM : ∀ i, M i → ¬ R i) : SsR w' R v l := by
  obtain ⟨A, c, h1, h2, h3, h4⟩ := h
  exact ⟨A, c, h1, h2, h3, h4.chg hc hM⟩
theorem SsR.on (h : SsR w R v l) (hb : Below w.heap.size w w') : SsR w' R v l := h.chg (Chg.of_below (M := fun _ => False) hb) (fun _ e => e.elim)
theorem SsR.mono (h : SsR w R v l) (hR : ∀ i, R i → R' i) : SsR w R' v l := by
  obtain ⟨A, c, h1, h2, h3, h4⟩ := h
  exact ⟨A, c, h1, h2, h3, h4.mono hR⟩
theorem SsR.at_ (h : SsR w R v l) {A : Option Addr} {n c : Nat} (hv : v = .slice A n c) {j : Nat} {x : ByteArray} (hx : l[j]? = some x) :
    ∃ b o, A = some ⟨b, o, none⟩ ∧ R b ∧ w.cell? ⟨b, o + j, none⟩ = some (.string x) := by
  obtain ⟨A', c', e, _, _, h2⟩ := h
  rw [hv] at e
  injection e with e _ _
  subst e
  have g1 := svs_get hx
  obtain ⟨b, o, e2, hb, hc⟩ := h2 (by intro e; rw [e] at g1; simp at g1)
  exact ⟨b, o, e2, hb, hc _ _ g1⟩
end
set_option maxRecDepth 100000 in
set_option maxHeartbeats 4000000 in
/-- slices.Equal of two rows of names that read the same -/
theorem hequalS {w : World} {R1 R2 : Nat → Prop} {va vb : Value} {l : List ByteArray} (ha : SsR w R1 va l) (hb : SsR w R2 vb l) (hl : l.length ≤ 1000000) :
    Calls Tryz.prog 23 #[va, vb] w fun e w' => e = .returned (.bool true) ∧ Below w.heap.size w w' := by
  have HA := Lib.hid ha
  have HB := Lib.hid hb
  obtain ⟨A1, c1, rfl, h11, h12, _⟩ := ha
  obtain ⟨A2, c2, rfl, h21, h22, _⟩ := hb
  obtain ⟨n, hn⟩ : ∃ n, n = l.length := ⟨_, rfl⟩
  rw [← hn] at h11 h21 hl HA HB ⊢
  have Hn := Lib.hid hn
  clear hn
  go_enter Tryz.func23, Tryz.ntmps23
  go_wp2_with fail
  go_loopw [13] (fun i wr => ∃ k : Nat, k ≤ n ∧ i = .int .i64 k ∧ Below w.heap.size w wr) (fun i _ => n - (intOf i).toNat)
  case atStart => exact ⟨0, by omega, rfl, Below.refl _ _⟩
  case round =>
    obtain ⟨k, hk, rfl, hbw⟩ := hrel
    have HBW := Lib.hid hbw
    clear hbw
    by_cases hkn : k < n
    · have hdk : decide ((k : Int) < (n : Int)) = true := decide_eq_true (by omega)
      obtain ⟨x, hx⟩ : ∃ x, l[k]? = some x := ⟨l[k]'(by have := Hn.out; omega), List.getElem?_eq_getElem _⟩
      obtain ⟨b1, o1, rfl, _, e0⟩ := (HA.out.on HBW.out).at_ rfl hx
      obtain ⟨b2, o2, rfl, _, f0⟩ := (HB.out.on HBW.out).at_ rfl hx
      have hS : Hid (wr.drew.cell? ⟨b1, o1 + k, none⟩ = some (.string x) ∧ wr.drew.cell? ⟨b2, o2 + k, none⟩ = some (.string x)) := Lib.hid ⟨e0, f0⟩
      have hdk3 : (k : Int) < (n : Int) := by omega
      have HBd := Lib.hid (HBW.out.trans ((Below.refl wr.heap.size wr).drew.mono HBW.out.size))
      clear e0 f0 hx
      go_wp2_with fail
      refine wp_region_noPanic ?_
      refine wp_region_held_drew (S := fun w' => w'.cell? ⟨b1, o1 + k, none⟩ = some (.string x) ∧ w'.cell? ⟨b2, o2 + k, none⟩ = some (.string x)) (by kernel_rfl) hS.out (fun hHeld => ?_)
      generalize World.drew _ = W at *
      refine wpAnyH_take (i := 0) (v := ?_) opAt_0 (by kernel_rfl) (by kernel_rfl) (by kernel_rfl) (fun _ _ _ h => h) (Or.inl ⟨by rfl, ?_⟩) hHeld ?_
      rotate_left
      · (intro w' hSw; obtain ⟨p0, p1⟩ := hSw; go_simp; try with_reducible rfl)
      try simp only [Act.put, List.setIfInBounds_toArray, List.set_cons_zero, List.set_cons_succ]
      refine wpAnyH_take (i := 1) (v := ?_) opAt_1 (by kernel_rfl) (by kernel_rfl) (by kernel_rfl) (fun _ _ _ h => h) (Or.inl ⟨by rfl, ?_⟩) hHeld ?_
      rotate_left
      · (intro w' hSw; obtain ⟨p0, p1⟩ := hSw; go_simp; try with_reducible rfl)
      try simp only [Act.put, List.setIfInBounds_toArray, List.set_cons_zero, List.set_cons_succ]
      refine wpAnyH_take (i := 2) (v := ?_) opAt_2 (by kernel_rfl) (by kernel_rfl) (by kernel_rfl) (fun _ _ _ h => h) (Or.inl ⟨by rfl, ?_⟩) hHeld ?_
      rotate_left
      · (intro w' hSw; obtain ⟨p0, p1⟩ := hSw; go_simp; try with_reducible rfl)
      try simp only [Act.put, List.setIfInBounds_toArray, List.set_cons_zero, List.set_cons_succ]
      refine wpAnyH_take (i := 3) (v := ?_) opAt_3 (by kernel_rfl) (by kernel_rfl) (by kernel_rfl) (fun _ _ _ h => h) (Or.inl ⟨by rfl, ?_⟩) hHeld ?_
      rotate_left
      · (intro w' hSw; obtain ⟨p0, p1⟩ := hSw; go_simp; try with_reducible rfl)
      try simp only [Act.put, List.setIfInBounds_toArray, List.set_cons_zero, List.set_cons_succ]
      refine wpAnyH_take (i := 4) (v := ?_) opAt_4 (by kernel_rfl) (by kernel_rfl) (by kernel_rfl) (fun _ _ _ h => h) (Or.inl ⟨by rfl, ?_⟩) hHeld ?_
      rotate_left
      · (intro w' hSw; obtain ⟨p0, p1⟩ := hSw; go_simp; try with_reducible rfl)
      try simp only [Act.put, List.setIfInBounds_toArray, List.set_cons_zero, List.set_cons_succ]
      refine wpAnyH_take (i := 5) (v := ?_) opAt_5 (by kernel_rfl) (by kernel_rfl) (by kernel_rfl) (fun _ _ _ h => h) (Or.inl ⟨by rfl, ?_⟩) hHeld ?_
      rotate_left
      · (intro w' hSw; obtain ⟨p0, p1⟩ := hSw; go_simp; try with_reducible rfl)
      try simp only [Act.put, List.setIfInBounds_toArray, List.set_cons_zero, List.set_cons_succ]
      refine wpAnyH_take (i := 6) (v := ?_) opAt_6 (by kernel_rfl) (by kernel_rfl) (by kernel_rfl) (fun _ _ _ h => h) (Or.inl ⟨by rfl, ?_⟩) hHeld ?_
      rotate_left
      · (intro w' hSw; obtain ⟨p0, p1⟩ := hSw; go_simp; try with_reducible rfl)
      try simp only [Act.put, List.setIfInBounds_toArray, List.set_cons_zero, List.set_cons_succ]
      refine wpAnyH_take (i := 7) (v := ?_) opAt_7 (by kernel_rfl) (by kernel_rfl) (by kernel_rfl) (fun _ _ _ h => h) (Or.inl ⟨by rfl, ?_⟩) hHeld ?_
      rotate_left
      · (intro w' hSw; obtain ⟨p0, p1⟩ := hSw; go_simp; try with_reducible rfl)
      try simp only [Act.put, List.setIfInBounds_toArray, List.set_cons_zero, List.set_cons_succ]
      refine wpAnyH_take (i := 8) (v := ?_) opAt_8 (by kernel_rfl) (by kernel_rfl) (by kernel_rfl) (fun _ _ _ h => h) (Or.inl ⟨by rfl, ?_⟩) hHeld ?_
      rotate_left
      · (intro w' hSw; obtain ⟨p0, p1⟩ := hSw; go_simp; try with_reducible rfl)
      try simp only [Act.put, List.setIfInBounds_toArray, List.set_cons_zero, List.set_cons_succ]
      refine wpAnyH_done (by kernel_rfl) ?_ _
      refine NoPanic.normal ?_
      go_wp2_with fail
      go_roundw
      case rel => exact ⟨k + 1, by omega, by go_num, HBd.out⟩
      case measure => simp [intOf]; omega
    · have hdk : decide ((k : Int) < (n : Int)) = false := decide_eq_false (by omega)
      go_wp2_with fail
      go_ret
      exact ⟨rfl, HBW.out⟩

def ks (n : ByteArray) : Lit := .string n.data.toList
theorem ks_inj {a b : ByteArray} (h : ks a = ks b) : a = b := by
  unfold ks at h
  injection h with h
  cases a; cases b
  simp at h
  exact congrArg _ h
theorem keyedStr : Keyed Tryz.prog 9 := string_keyed Tryz.underlying9
theorem keyOf_ks {n : ByteArray} (h : n.size ≤ maxLen) : keyOf Tryz.prog 9 (.string n) = some (ks n) := by
  simp [keyOf, Tryz.underlying9, mapKey, ks, h]
theorem isKey_ks (n : ByteArray) : WideAt.IsKeyLit (ks n) := trivial
/-- block b is a map of at most n names, of which those of l are at 1, and no others there -/
def MapS (w : World) (b n : Nat) (l : List ByteArray) : Prop := ∃ D : DataW Unit, w.ownsMap Tryz.prog 9 (plainElem Tryz.prog 3) b n D ∧ (∀ i, i ∈ l → ∀ zd, D.atKey (ks i) zd = .lit (.int .i64 1)) ∧ (∀ k, (∀ i, i ∈ l → k ≠ ks i) → Maps.has D k = false)
section
variable {w w' : World} {b n : Nat} {l : List ByteArray} {M : Nat → Prop}
theorem MapS.lt (h : MapS w b n l) : b < w.heap.size := by obtain ⟨D, h, _⟩ := h; exact h.lt
theorem MapS.of_block (h : MapS w b n l) (hb : w'.heap[b]? = w.heap[b]?) : MapS w' b n l := by
  obtain ⟨D, ⟨es', clock, h1, h2⟩, hr⟩ := h
  exact ⟨D, ⟨es', clock, hb.trans h1, h2⟩, hr⟩
theorem MapS.chg (h : MapS w b n l) (hc : Chg M w w') (hM : ¬ M b) : MapS w' b n l := h.of_block (hc.block b h.lt hM)
theorem MapS.on (h : MapS w b n l) (hb : Below w.heap.size w w') : MapS w' b n l := h.of_block (hb.block b h.lt)
theorem MapS.new (w : World) : MapS (w.alloc (.map #[] 0)) w.heap.size 0 [] := ⟨_, World.ownsMap_made w _ _ _, (fun i hi => absurd hi (by simp)), (fun k _ => rfl)⟩
theorem MapS.congr {l' : List ByteArray} (h : MapS w b n l) (he : ∀ i, i ∈ l ↔ i ∈ l') : MapS w b n l' := by
  obtain ⟨D, h1, h2, h3⟩ := h
  exact ⟨D, h1, fun i hi => h2 i ((he i).2 hi), fun k hk => h3 k (fun i hi => hk i ((he i).1 hi))⟩
theorem zeroI64s (w : World) : (zeroValue 3).run Tryz.prog w = .ok (.int .i64 0) w := by kernel_rfl
set_option maxRecDepth 100000 in
theorem MapS.look (h : MapS w b n l) {i : ByteArray} (hi : i.size ≤ maxLen) (hm : i ∈ l) :
    (Instr.lookup 45 (.map (some b)) (.string i) false).run Tryz.prog w = .ok (.int .i64 1) w := by
  obtain ⟨D, hown, h1, h2⟩ := h
  obtain ⟨c, hrun, e, hw⟩ := hown.lookup_int keyedStr Tryz.underlying45 Tryz.underlying3 (zeroI64s w) (keyOf_ks hi)
  rw [h1 i hm] at e
  injection e with e
  injection e with _ e
  rw [hrun, e]
set_option maxRecDepth 100000 in
theorem MapS.store (h : MapS w b n l) (hn : n ≤ 1000000) {i : ByteArray} (hi : i.size ≤ maxLen) :
    ∃ w', (Instr.mapUpdate 45 (.map (some b)) (.string i) (.int .i64 1)).run Tryz.prog w = .ok () w' ∧ MapS w' b (n + 1) (i :: l) ∧ w.mapTurned w' b := by
  obtain ⟨D, hown, h1, h2⟩ := h
  obtain ⟨w', hrun, r1, r2⟩ := hown.store keyedStr Tryz.underlying45 (by unfold maxLen; omega) (keyOf_ks hi) (plainElem_int Tryz.underlying3 (by decide : (Lit.int .i64 1).wf = true))
  refine ⟨w', hrun, ⟨_, r1, fun j hj zd => ?_, fun k hk => ?_⟩, r2⟩
  · by_cases e : j = i
    · subst e; exact atKey_put_same hown.isMap (isKey_ks j) _ _
    · rcases List.mem_cons.1 hj with e' | hj
      · exact absurd e' e
      · exact (atKey_put_other (fun e' => e (ks_inj e')) _ _).trans (h1 j hj zd)
  · exact (has_put_other (hk i (by simp)) _).trans (h2 k (fun j hj => hk j (by simp [hj])))
set_option maxRecDepth 100000 in
/-- clear -/
theorem MapS.wipe (h : MapS w b n l) (ty : TypeId) :
    ∃ w', (Builtin.clear_ #[45] ty #[.map (some b)]).run Tryz.prog w = .ok (.tuple #[]) w' ∧ MapS w' b 0 [] ∧ Chg (fun i => i = b) w w' := by
  obtain ⟨D, ⟨es, clock, hb, F, _, _⟩, h1, h2⟩ := h
  have hlt : b < w.heap.size := (Array.getElem?_eq_some_iff.1 hb).1
  refine ⟨{ w with heap := w.heap.setIfInBounds b (.map #[] clock) }, by simp [Builtin.clear_, run_underlying Tryz.underlying45, MapKept.run_getObj_map hb, MapKept.run_setObj_map _ hb, Result.andThen], ?_, ?_⟩
  · exact ⟨.map [], ⟨#[], clock, by simp [hlt], ⟨by simp, MapKept.stamped_empty clock, by simp⟩, Nat.le_refl _, rfl⟩, (fun i hi => absurd hi (by simp)), (fun k _ => rfl)⟩
  · exact ⟨rfl, rfl, rfl, by simp, fun k hk hn => by simp [Array.getElem?_setIfInBounds, Ne.symm hn]⟩
end
theorem mask_nat (x : Int) : ∃ O : Nat, O ≤ 1073741823 ∧ bits .and .i64 x 1073741823 = (O : Int) := by
  have hle : (BitVec.ofInt 64 x &&& BitVec.ofInt 64 1073741823).toNat ≤ 1073741823 := by
    rw [BitVec.toNat_and]
    exact Nat.le_trans Nat.and_le_right (by decide)
  refine ⟨(BitVec.ofInt 64 x &&& BitVec.ofInt 64 1073741823).toNat, hle, ?_⟩
  show IntKind.i64.wrap ((BitVec.ofInt 64 x &&& BitVec.ofInt 64 1073741823).toNat : Int) = _
  rw [IntKind.wrap_i64]
  omega
end Go.Proofs.YtboeiadfmknidaaGreat
