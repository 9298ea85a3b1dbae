
/-
  Layer 6: the document's folder: a state more (Remove, Rename, Create).
-/
import Derived.Test.YtpjmjcjikaekiaaGxFind
set_option linter.unusedVariables false
set_option linter.unusedSimpArgs false
namespace Go.Proofs.Ytpjmjcjikaekiaa
open Go.RowKit

theorem step_append_1 {P : Program} (w : World) {ops : Array Oper} {o : Oper} {a : Act} {K : Act → World → Prop} {Q : Exit → Act → World → Prop} {E : Prop} (hgd : o.guard = none) (s x : Operand) (t : TypeId)
    (ho : o.op = .call { callee := .builtin .append, args := #[s, x], argTypes := #[t, t] })
    (e : TypeId) (i : TypeInfo) (z : Value) (bytes : Nat) (ht : P.underlying t = some (.slice e)) (hi : P.info? e = some i) (hz : i.zero = some z)
    (hsize : i.size = 1) (hby : i.bytes = bytes) (hzs : z.cells.size = 1)
    (v : Value) (n : Nat) (xs : List Value) (hs : a.eval s = v) (hown : w.ownsRow 0 e 1 v n xs)
    (b c : Nat) (u : Value) (hx : a.eval x = .slice (some ⟨b, 0, none⟩) 1 c) (hr : w.cell? ⟨b, 0, none⟩ = some u) (h1 : u.oneCell' = true)
    (h63 : n + 1 ≤ maxLen) (hbytes : (n + 1) * bytes ≤ 140737488355328)
    (h : ∀ v' w', w'.ownsRow 0 e 1 v' (n + 1) (xs ++ [u]) → w.grownBy w' v.ownBlock → (v'.ownBlock = v.ownBlock ∨ v'.ownBlock = some w.heap.size) → K (a.put o.dst v') w') :
    if Region.wanted o (yielded ops a.tmps) = true then Oper.wp P o a w K Q else E := by
  have hw : Region.wanted o (yielded ops a.tmps) = true := by simp [Region.wanted, hgd]
  rw [if_pos hw]
  exact wp_append_rd w s x t ho 0 e i z 1 bytes ht hi hz hsize hby hzs (by omega) v n xs hs hown (b + 1) _ 1 c [u] hx (by simp)
    (fun _ => ⟨b, 0, rfl, by omega, fun j v hv => by
      rcases j with _ | j
      · simp at hv; subst hv; simpa using hr
      · simp at hv⟩) (by simpa using h1) h63 hbytes (Nat.zero_le _) fun v' w' h2 h3 h4 => h v' w' h2 h3 h4
/-- what a call leaves that changes the document's folder -/
def RMut (w w' : World) (X : Nat) (N : Nat → Prop) (vs : Value) (sts : List (List Ent)) (last : Nat) : Prop :=
  ∃ vs' vals' N', RFol w' X N' vs' vals' sts last ∧ Chg (fun i => i = X ∨ vs.ownBlock = some i) w w' ∧ (vs'.ownBlock = vs.ownBlock ∨ ∀ g, vs'.ownBlock = some g → w.heap.size ≤ g) ∧ ∀ i, N' i → N i ∨ w.heap.size ≤ i
theorem RFol.on_drew {w : World} {X : Nat} {N : Nat → Prop} {vs : Value} {vals : List Value} {sts : List (List Ent)} {last : Nat} (h : RFol w X N vs vals sts last) : RFol w.drew X N vs vals sts last := h.on (Below.refl _ _).drew
section
variable {w : World} {X : Nat} {N : Nat → Prop} {vs : Value} {vals : List Value} {sts : List (List Ent)} {last : Nat}
theorem RFol.push {w w' : World} {K : Nat → Prop} {vs' v : Value} {l : List Ent} {last' : Nat} (h : RFol w X N vs vals sts last) (hc : Chg (fun i => i = X ∨ vs.ownBlock = some i) w w')
    (c0 : w'.cell? ⟨X, 0, none⟩ = some vs') (c1 : w'.cell? ⟨X, 1, none⟩ = some (.int .u64 (last' : Int))) (f0 : w'.frozen? ⟨X, 0, none⟩ = false) (f1 : w'.frozen? ⟨X, 1, none⟩ = false)
    (ho : w'.ownsRow 0 44 1 vs' (sts.length + 1) (vals ++ [v])) (hob : vs'.ownBlock = vs.ownBlock ∨ ∀ g, vs'.ownBlock = some g → w.heap.size ≤ g) (hv : EsIn w' K v l)
    (hK : ∀ i, K i → w.heap.size ≤ i ∧ i < w'.heap.size) (hvK : ∀ g, vs'.ownBlock = some g → ¬ K g) : RMut w w' X N vs (sts ++ [l]) last' := by
  have hX := h.ltX
  have hno : ∀ i, (i = X ∨ vs.ownBlock = some i) → ¬ N i := fun i hi => hi.elim (fun e => e ▸ h.nx) (h.nv i)
  refine ⟨vs', vals ++ [v], fun i => N i ∨ K i, ⟨c0, c1, f0, f1, by simpa using ho, (h.each.chg hc hno).add hv, ?_, ?_, ?_, ?_, by simp⟩, hc, hob, fun i hi => hi.imp id (fun e => (hK i e).1)⟩
  · intro e
    rcases hob with h1 | h1
    · exact h.ne (h1 ▸ e)
    · have := h1 _ e; omega
  · rintro (e | e)
    · exact h.nx e
    · have := (hK _ e).1; omega
  · rintro g hg (e | e)
    · rcases hob with h1 | h1
      · exact h.nv g (h1 ▸ hg) e
      · have := h1 _ hg; have := h.nlt g e; omega
    · exact hvK g hg e
  · rintro i (e | e)
    · exact Nat.lt_of_lt_of_le (h.nlt i e) hc.size
    · exact (hK i e).2

set_option maxRecDepth 100000 in
set_option maxHeartbeats 4000000 in
theorem rremove (h : RFol w X N vs vals sts last) (hl : sts.length ≤ 100000) (l : List Ent) (hst : sts[sts.length - 1]? = some l) (hk : l.length ≤ 100000) (n : ByteArray) (hn : n.size ≤ 9223372036854775807) (hm : mayN n = true) (hf : (findL l n).isSome = true) :
    Calls Try.prog 38 #[.pointer (some ⟨X, 0, none⟩), .string n] w fun e w' => e = .returned (.int .i64 0) ∧ RMut w w' X N vs (sts ++ [withoutL l n]) last := by
  obtain ⟨i0, hi0, hz0, hz1, hz2⟩ := info_parts sts_info
  have H := Lib.hid h
  have HM := Lib.hid hm
  have HF := Lib.hid hf
  have HSt := Lib.hid hst
  clear h hm hf hst
  go_enter Try.func38, Try.ntmps38
  go_wp2_with fail
  refine (rmay_any n _ hn).mono ?_
  rintro e wa ⟨rfl, hb⟩
  rw [HM.out]
  have HB := Lib.hid hb
  clear hb
  go_wp2_with fail
  refine (rfind (H.out.on HB.out) (by omega) l HSt.out (by omega) n).mono ?_
  rintro e wb ⟨rfl, hb⟩
  rw [HF.out]
  have HB2 := Lib.hid (HB.out.trans (hb.mono HB.out.size))
  clear hb HB
  go_wp2_with fail
  have HD := Lib.hid (H.out.on HB2.out).on_drew
  have HBd : Hid (Below w.heap.size w wb.drew) := HB2.out.drew
  refine wp_region_noPanic ?_
  refine OrdL.wpL_region (fun w' => w'.cell? ⟨X, 0, none⟩ = some vs ∧ w'.cell? ⟨X, 1, none⟩ = some (.int .u64 (last : Int))) 13 (by kernel_rfl) ?_
  clear HB2
  generalize World.drew _ = W at *
  have hHeld : W.cell? ⟨X, 0, none⟩ = some vs ∧ W.cell? ⟨X, 1, none⟩ = some (.int .u64 (last : Int)) := ⟨HD.out.c0, HD.out.c1⟩
  have HOw : Hid (∀ g, vs.ownBlock = some g → g < w.heap.size) := fun g hg => (H.out.own.lt g hg).2
  refine OrdL.wpL_take (i := 0) (v := ?_) opAt_0 [] (by kernel_rfl) (by kernel_rfl) (by kernel_rfl) (by kernel_rfl) (by kernel_rfl) (by kernel_rfl) (fun _ _ _ h => h) (Or.inl ⟨by rfl, ?_⟩) hHeld ?_
  rotate_left
  · (intro w' hSw; obtain ⟨k0, k1⟩ := hSw; go_simp; try with_reducible rfl)
  try simp only [Act.put, List.setIfInBounds_toArray, List.set_cons_zero, List.set_cons_succ]
  refine OrdL.wpL_take (i := 1) (v := ?_) opAt_1 [] (by kernel_rfl) (by kernel_rfl) (by kernel_rfl) (by kernel_rfl) (by kernel_rfl) (by kernel_rfl) (fun _ _ _ h => h) (Or.inl ⟨by rfl, ?_⟩) hHeld ?_
  rotate_left
  · (intro w' hSw; obtain ⟨k0, k1⟩ := hSw; go_simp; try with_reducible rfl)
  try simp only [Act.put, List.setIfInBounds_toArray, List.set_cons_zero, List.set_cons_succ]
  refine OrdL.wpL_take (i := 2) (v := ?_) opAt_2 [] (by kernel_rfl) (by kernel_rfl) (by kernel_rfl) (by kernel_rfl) (by kernel_rfl) (by kernel_rfl) (fun _ _ _ h => h) (Or.inl ⟨by rfl, ?_⟩) hHeld ?_
  rotate_left
  · (intro w' hSw; obtain ⟨k0, k1⟩ := hSw; go_simp; try with_reducible rfl)
  try simp only [Act.put, List.setIfInBounds_toArray, List.set_cons_zero, List.set_cons_succ]
  refine OrdL.wpL_take (i := 3) (v := ?_) opAt_3 [] (by kernel_rfl) (by kernel_rfl) (by kernel_rfl) (by kernel_rfl) (by kernel_rfl) (by kernel_rfl) (fun _ _ _ h => h) (Or.inl ⟨by rfl, ?_⟩) hHeld ?_
  rotate_left
  · (intro w' hSw; obtain ⟨k0, k1⟩ := hSw; go_simp; try with_reducible rfl)
  try simp only [Act.put, List.setIfInBounds_toArray, List.set_cons_zero, List.set_cons_succ]
  refine OrdL.wpL_take (i := 4) (v := ?_) opAt_4 [] (by kernel_rfl) (by kernel_rfl) (by kernel_rfl) (by kernel_rfl) (by kernel_rfl) (by kernel_rfl) (fun _ _ _ h => h) (Or.inl ⟨by rfl, ?_⟩) hHeld ?_
  rotate_left
  · (intro w' hSw; obtain ⟨k0, k1⟩ := hSw; go_simp; try with_reducible rfl)
  try simp only [Act.put, List.setIfInBounds_toArray, List.set_cons_zero, List.set_cons_succ]
  refine OrdL.wpL_take (i := 5) (v := ?_) opAt_5 [] (by kernel_rfl) (by kernel_rfl) (by kernel_rfl) (by kernel_rfl) (by kernel_rfl) (by kernel_rfl) (fun _ _ _ h => h) (Or.inl ⟨by rfl, ?_⟩) hHeld ?_
  rotate_left
  · (intro w' hSw; obtain ⟨k0, k1⟩ := hSw; go_simp; try with_reducible rfl)
  try simp only [Act.put, List.setIfInBounds_toArray, List.set_cons_zero, List.set_cons_succ]
  refine OrdL.wpL_take (i := 7) (v := ?_) opAt_7 [] (by kernel_rfl) (by kernel_rfl) (by kernel_rfl) (by kernel_rfl) (by kernel_rfl) (by kernel_rfl) (fun _ _ _ h => h) (Or.inl ⟨by rfl, ?_⟩) hHeld ?_
  rotate_left
  · (intro w' hSw; obtain ⟨k0, k1⟩ := hSw; go_simp; try with_reducible rfl)
  try simp only [Act.put, List.setIfInBounds_toArray, List.set_cons_zero, List.set_cons_succ]
  refine OrdL.wpL_ready (rs := [6]) (by kernel_rfl) (by simp) ?_
  refine OrdL.AllL.cons rfl (fun K hK => ?_) OrdL.AllL.nil
  go_simp
  obtain ⟨lv, ll, hlv, hll, hle, hcall⟩ := rlist HD.out (by omega)
  rw [HSt.out] at hll
  injection hll with hll
  subst hll
  refine hcall.mono ?_
  rintro e w1 ⟨rfl, hb1⟩
  go_wp2_with fail
  have HD1 := Lib.hid (HD.out.on hb1)
  have HB1 := Lib.hid (HBd.out.trans (hb1.mono HBd.out.size))
  have HE1 := Lib.hid (hle.es.on hb1)
  clear hHeld hcall hlv hle hb1
  have hHeld : w1.cell? ⟨X, 0, none⟩ = some vs ∧ w1.cell? ⟨X, 1, none⟩ = some (.int .u64 (last : Int)) := ⟨HD1.out.c0, HD1.out.c1⟩
  refine hK.out _ _ (fun _ => hHeld) ?_
  clear hK K
  try simp only [Act.put, List.setIfInBounds_toArray, List.set_cons_zero, List.set_cons_succ]
  refine OrdL.wpL_ready (rs := [8]) (by kernel_rfl) (by simp) ?_
  refine OrdL.AllL.cons rfl (fun K hK => ?_) OrdL.AllL.nil
  go_simp
  refine (rwithout HE1.out n (by omega)).mono ?_
  rintro e w2 ⟨r, rfl, ho2, hb2⟩
  obtain ⟨Ar, cr, her, _, _, _⟩ := own_slice ho2
  obtain ⟨nr, hnr⟩ : ∃ nr, nr = (withoutL l n).length := ⟨_, rfl⟩
  rw [← hnr] at her
  have Hnr := Lib.hid hnr
  clear hnr
  subst her
  go_wp2_with fail
  have HD2 := Lib.hid (HD1.out.on hb2)
  have HB2 := Lib.hid (HB1.out.trans (hb2.mono HB1.out.size))
  have HE2 := Lib.hid (EsIn.of_own ho2)
  have HK2 : Hid (∀ i, (Value.slice Ar nr cr).ownBlock = some i → w.heap.size ≤ i ∧ i < w2.heap.size) := fun i hi => ⟨Nat.le_trans HB1.out.size (ho2.lt i hi).1, (ho2.lt i hi).2⟩
  clear hHeld ho2 hb2
  have hHeld : w2.cell? ⟨X, 0, none⟩ = some vs ∧ w2.cell? ⟨X, 1, none⟩ = some (.int .u64 (last : Int)) := ⟨HD2.out.c0, HD2.out.c1⟩
  refine hK.out _ _ (fun _ => hHeld) ?_
  clear hK K
  try simp only [Act.put, List.setIfInBounds_toArray, List.set_cons_zero, List.set_cons_succ]
  refine OrdL.wpL_ready (rs := [9]) (by kernel_rfl) (by simp) ?_
  refine OrdL.AllL.cons rfl (fun K hK => ?_) OrdL.AllL.nil
  go_simp
  have hnew : Below w2.heap.size w2 (w2.alloc (.cells #[.slice Ar nr cr] 44)) := (Below.refl _ _).alloc (Nat.le_refl _) _
  have HD3 := Lib.hid (HD2.out.on hnew)
  have HB3 := Lib.hid (HB2.out.trans (hnew.mono HB2.out.size))
  have HE3 := Lib.hid (HE2.out.chg (Chg.of_below (M := fun _ => False) hnew) (fun _ e => e.elim))
  have HK3 : Hid (∀ i, (Value.slice Ar nr cr).ownBlock = some i → w.heap.size ≤ i ∧ i < (w2.alloc (.cells #[.slice Ar nr cr] 44)).heap.size) := fun i hi => ⟨(HK2.out i hi).1, Nat.lt_of_lt_of_le (HK2.out i hi).2 hnew.size⟩
  have HEl : Hid ((w2.alloc (.cells #[.slice Ar nr cr] 44)).cell? ⟨w2.heap.size, 0, none⟩ = some (.slice Ar nr cr)) := cell_new1 _ _ _
  have HnX : Hid (w2.heap.size < (w2.alloc (.cells #[.slice Ar nr cr] 44)).heap.size) := by show _ < _; simp
  clear hHeld hnew
  generalize World.alloc w2 _ = w3 at *
  have hHeld : w3.cell? ⟨X, 0, none⟩ = some vs ∧ w3.cell? ⟨X, 1, none⟩ = some (.int .u64 (last : Int)) := ⟨HD3.out.c0, HD3.out.c1⟩
  refine hK.out _ _ (fun _ => hHeld) ?_
  clear hK K
  try simp only [Act.put, List.setIfInBounds_toArray, List.set_cons_zero, List.set_cons_succ]
  refine OrdL.wpL_ready (rs := [10]) (by kernel_rfl) (by simp) ?_
  refine OrdL.AllL.cons rfl (fun K hK => ?_) OrdL.AllL.nil
  obtain ⟨Av, cv, hev, _, hcm, _⟩ := own_slice HD3.out.own
  obtain ⟨ns, hns⟩ : ∃ ns, ns = sts.length := ⟨_, rfl⟩
  have hvs : vs = .slice Av ns cv := by rw [hns]; exact hev
  have Hvs := Lib.hid hvs
  have Hns := Lib.hid hns
  have hnsl : ns ≤ 100000 := by omega
  have HOo : Hid (w3.ownsRow 0 44 1 vs ns vals) := by rw [hns]; exact HD3.out.own
  clear hev hns hvs
  refine step_append_1 (o := (⟨some 28, _, _, _, _, _⟩ : Oper)) w3 rfl (.tmp 22) (.tmp 27) 47 rfl 44 i0 (.slice none 0 0) 24 Try.underlying47 hi0 hz0 hz1 hz2 rfl vs ns vals rfl HOo.out w2.heap.size 1 (.slice Ar nr cr) rfl HEl.out rfl (by unfold maxLen; omega) (by omega) ?_
  intro v4 w4 hown4 hg4 hv4
  dsimp only [Act.put, Array.getElem_toList, List.getElem_toArray, List.getElem_cons_succ, List.getElem_cons_zero]
  have hc4 : Chg (fun i => vs.ownBlock = some i) w3 w4 := Chg.of_grown hg4 (fun g hg => hg)
  have hXlt := HD3.out.ltX
  have hXn : ¬ vs.ownBlock = some X := HD3.out.ne
  have HC4 := Lib.hid hc4
  have c04 : w4.cell? ⟨X, 0, none⟩ = some vs := (hc4.cell (p := ⟨X, 0, none⟩) hXlt hXn).trans HD3.out.c0
  have c14 : w4.cell? ⟨X, 1, none⟩ = some (.int .u64 (last : Int)) := (hc4.cell (p := ⟨X, 1, none⟩) hXlt hXn).trans HD3.out.c1
  have f04 : w4.frozen? ⟨X, 0, none⟩ = false := (hc4.frozen (p := ⟨X, 0, none⟩) hXlt hXn).trans HD3.out.f0
  have f14 : w4.frozen? ⟨X, 1, none⟩ = false := (hc4.frozen (p := ⟨X, 1, none⟩) hXlt hXn).trans HD3.out.f1
  have HE4 := Lib.hid (HE3.out.chg hc4 (fun i hi e => by have h1 := HK3.out i e; have h2 := (HOw.out i hi); omega))
  have HO4 := Lib.hid hown4
  have HV4 := Lib.hid hv4
  have Hc04 := Lib.hid c04
  have Hc14 := Lib.hid c14
  have Hf04 := Lib.hid f04
  have Hf14 := Lib.hid f14
  have Hw4 : Hid (w3.heap.size ≤ w4.heap.size) := hc4.size
  clear hHeld hown4 hg4 hv4 hc4 c04 c14 f04 f14
  obtain ⟨A4, c4, rfl, _, _, _⟩ := own_slice HO4.out
  have hHeld : w4.cell? ⟨X, 0, none⟩ = some vs ∧ w4.cell? ⟨X, 1, none⟩ = some (.int .u64 (last : Int)) := ⟨Hc04.out, Hc14.out⟩
  refine hK.out _ _ (fun _ => hHeld) ?_
  clear hK K
  try simp only [Act.put, List.setIfInBounds_toArray, List.set_cons_zero, List.set_cons_succ]
  refine OrdL.wpL_take (i := 11) (v := ?_) opAt_11 [12] (by kernel_rfl) (by kernel_rfl) (by kernel_rfl) (by kernel_rfl) (by kernel_rfl) (by kernel_rfl) (fun _ _ _ h => h) (Or.inl ⟨by rfl, ?_⟩) hHeld ?_
  rotate_left
  · (intro w' hSw; obtain ⟨k0, k1⟩ := hSw; go_simp; try with_reducible rfl)
  try simp only [Act.put, List.setIfInBounds_toArray, List.set_cons_zero, List.set_cons_succ]
  refine OrdL.wpL_take (i := 12) (v := ?_) opAt_12 [] (by kernel_rfl) (by kernel_rfl) (by kernel_rfl) (by kernel_rfl) (by kernel_rfl) (by kernel_rfl) (fun _ _ _ h => h) (Or.inl ⟨by rfl, ?_⟩) hHeld ?_
  rotate_left
  · (intro w' hSw; obtain ⟨k0, k1⟩ := hSw; go_simp; try with_reducible rfl)
  try simp only [Act.put, List.setIfInBounds_toArray, List.set_cons_zero, List.set_cons_succ]
  refine OrdL.wpL_ready (rs := [13]) (by kernel_rfl) (by simp) ?_
  refine OrdL.AllL.cons rfl (fun K hK => ?_) OrdL.AllL.nil
  have f04 := Hf04.out
  have c04 := Hc04.out
  go_simp
  refine hK.out _ _ (fun h => by simp at h) ?_
  refine OrdL.wpL_done (by kernel_rfl) ?_ _
  refine NoPanic.normal ?_
  clear f04 c04 hHeld
  go_wp2_with fail
  go_ret
  have hcS : Chg (fun i => i = X) w4 (w4.setCell ⟨X, 0, none⟩ (.slice A4 (ns + 1) c4)) := (Chg.refl (M := fun i => i = X) (w := w4)).setCell (p := ⟨X, 0, none⟩) rfl _
  have hvw : ∀ g, vs.ownBlock = some g → g < w.heap.size := fun g hg => (H.out.own.lt g hg).2
  have hob : (Value.slice A4 (ns + 1) c4).ownBlock = vs.ownBlock ∨ ∀ g, (Value.slice A4 (ns + 1) c4).ownBlock = some g → w3.heap.size ≤ g := HV4.out.imp id (fun h1 g hg => by rw [h1] at hg; injection hg with hg; omega)
  have hs3 := HB3.out.size
  have hXw := H.out.ltX
  have hXne := H.out.ne
  have h4X : ∀ g, (Value.slice A4 (ns + 1) c4).ownBlock = some g → g ≠ X := fun g hg e => by
    subst e
    rcases hob with h1 | h1
    · exact hXne (h1 ▸ hg)
    · have := h1 _ hg; omega
  have hcW : Chg (fun i => i = X ∨ vs.ownBlock = some i) w (w4.setCell ⟨X, 0, none⟩ (.slice A4 (ns + 1) c4)) := ((Chg.of_below (M := fun i => i = X ∨ vs.ownBlock = some i) HB3.out).trans HC4.out (fun i hi => .inl (.inr hi))).trans hcS (fun i hi => .inl (.inl hi))
  refine ⟨rfl, H.out.push hcW (World.cell?_setCell_same _ _ _ Hc04.out) ((World.cell?_setCell_other _ _ _ _ (by intro e; injection e with _ e; omega)).trans Hc14.out) (by rw [World.frozen?_setCell]; exact Hf04.out) (by rw [World.frozen?_setCell]; exact Hf14.out) (hcS.own (by have := HO4.out; rw [Hns.out] at this; rw [Hns.out]; exact this) (fun g hg e => h4X g hg e)) (hob.imp id (fun h1 g hg => Nat.le_trans hs3 (h1 g hg))) (HE4.out.chg hcS (fun i hi e => by have := (HK3.out i e).1; omega)) (fun i hi => ⟨(HK3.out i hi).1, Nat.lt_of_lt_of_le (Nat.lt_of_lt_of_le (HK3.out i hi).2 Hw4.out) hcS.size⟩) (fun g hg e => ?_)⟩
  have h5 := HK3.out g e
  rcases hob with h6 | h6
  · have := hvw g (h6 ▸ hg); omega
  · have := h6 g hg; omega

theorem rremove_arg (h : RFol w X N vs vals sts last) (n : ByteArray) (hn : n.size ≤ 9223372036854775807) (hm : mayN n = false) :
    Calls Try.prog 38 #[.pointer (some ⟨X, 0, none⟩), .string n] w fun e w' => e = .returned (.int .i64 1) ∧ Below w.heap.size w w' := by
  have HM := Lib.hid hm
  clear h hm
  go_enter Try.func38, Try.ntmps38
  go_wp2_with fail
  refine (rmay_any n _ hn).mono ?_
  rintro e wa ⟨rfl, hb⟩
  rw [HM.out]
  have HB := Lib.hid hb
  clear hb
  go_wp2_with fail
  go_ret
  exact ⟨rfl, HB.out⟩
theorem rremove_none (h : RFol w X N vs vals sts last) (hl : sts.length ≤ 100000) (l : List Ent) (hst : sts[sts.length - 1]? = some l) (hk : l.length ≤ 100000) (n : ByteArray) (hn : n.size ≤ 9223372036854775807) (hm : mayN n = true) (hf : (findL l n).isSome = false) :
    Calls Try.prog 38 #[.pointer (some ⟨X, 0, none⟩), .string n] w fun e w' => e = .returned (.int .i64 6) ∧ Below w.heap.size w w' := by
  have H := Lib.hid h
  have HM := Lib.hid hm
  have HF := Lib.hid hf
  have HSt := Lib.hid hst
  clear h hm hf hst
  go_enter Try.func38, Try.ntmps38
  go_wp2_with fail
  refine (rmay_any n _ hn).mono ?_
  rintro e wa ⟨rfl, hb⟩
  rw [HM.out]
  have HB := Lib.hid hb
  clear hb
  go_wp2_with fail
  refine (rfind (H.out.on HB.out) (by omega) l HSt.out (by omega) n).mono ?_
  rintro e wb ⟨rfl, hb⟩
  rw [HF.out]
  have HB2 := Lib.hid (HB.out.trans (hb.mono HB.out.size))
  clear hb HB
  go_wp2_with fail
  go_ret
  exact ⟨rfl, HB2.out⟩

set_option maxRecDepth 100000 in
set_option maxHeartbeats 4000000 in
theorem rrename (h : RFol w X N vs vals sts last) (hl : sts.length ≤ 100000) (l : List Ent) (hst : sts[sts.length - 1]? = some l) (hk : l.length ≤ 100000) (n to : ByteArray) (hn : n.size ≤ 9223372036854775807) (ht : to.size ≤ 9223372036854775807) (hm : mayN n = true) (hm2 : mayN to = true) (ino : Nat) (hi : ino < 18446744073709551616) (hf : findL l n = some ino) (hne : (n.toList == to.toList) = false) :
    Calls Try.prog 37 #[.pointer (some ⟨X, 0, none⟩), .string n, .string to] w fun e w' => e = .returned (.int .i64 0) ∧ RMut w w' X N vs (sts ++ [withL (withoutL l n) to ino]) last := by
  obtain ⟨i0, hi0, hz0, hz1, hz2⟩ := info_parts sts_info
  have H := Lib.hid h
  have HM := Lib.hid hm
  have HM2 := Lib.hid hm2
  have HF := Lib.hid hf
  have HSt := Lib.hid hst
  clear h hm hm2 hf hst
  go_enter Try.func37, Try.ntmps37
  go_wp2_with fail
  refine (rmay_any n _ hn).mono ?_
  rintro e wa ⟨rfl, hb⟩
  rw [HM.out]
  have HB := Lib.hid hb
  clear hb
  go_wp2_with fail
  refine (rmay_any to _ ht).mono ?_
  rintro e wa2 ⟨rfl, hb⟩
  rw [HM2.out]
  replace HB := Lib.hid (HB.out.trans (hb.mono HB.out.size))
  clear hb
  go_wp2_with fail
  refine (rfind (H.out.on HB.out) (by omega) l HSt.out (by omega) n).mono ?_
  rintro e wb ⟨rfl, hb⟩
  rw [HF.out]
  have HB2 := Lib.hid (HB.out.trans (hb.mono HB.out.size))
  clear hb HB
  go_wp2_with fail
  have HD := Lib.hid (H.out.on HB2.out).on_drew
  have HBd : Hid (Below w.heap.size w wb.drew) := HB2.out.drew
  refine wp_region_noPanic ?_
  refine OrdL.wpL_region (fun w' => w'.cell? ⟨X, 0, none⟩ = some vs ∧ w'.cell? ⟨X, 1, none⟩ = some (.int .u64 (last : Int))) 16 (by kernel_rfl) ?_
  clear HB2
  generalize World.drew _ = W at *
  have hHeld : W.cell? ⟨X, 0, none⟩ = some vs ∧ W.cell? ⟨X, 1, none⟩ = some (.int .u64 (last : Int)) := ⟨HD.out.c0, HD.out.c1⟩
  have HOw : Hid (∀ g, vs.ownBlock = some g → g < w.heap.size) := fun g hg => (H.out.own.lt g hg).2
  refine OrdL.wpL_take (i := 0) (v := ?_) opAt_0 [] (by kernel_rfl) (by kernel_rfl) (by kernel_rfl) (by kernel_rfl) (by kernel_rfl) (by kernel_rfl) (fun _ _ _ h => h) (Or.inl ⟨by rfl, ?_⟩) hHeld ?_
  rotate_left
  · (intro w' hSw; obtain ⟨k0, k1⟩ := hSw; go_simp; try with_reducible rfl)
  try simp only [Act.put, List.setIfInBounds_toArray, List.set_cons_zero, List.set_cons_succ]
  refine OrdL.wpL_take (i := 1) (v := ?_) opAt_1 [] (by kernel_rfl) (by kernel_rfl) (by kernel_rfl) (by kernel_rfl) (by kernel_rfl) (by kernel_rfl) (fun _ _ _ h => h) (Or.inl ⟨by rfl, ?_⟩) hHeld ?_
  rotate_left
  · (intro w' hSw; obtain ⟨k0, k1⟩ := hSw; go_simp; try with_reducible rfl)
  try simp only [Act.put, List.setIfInBounds_toArray, List.set_cons_zero, List.set_cons_succ]
  refine OrdL.wpL_take (i := 2) (v := ?_) opAt_2 [] (by kernel_rfl) (by kernel_rfl) (by kernel_rfl) (by kernel_rfl) (by kernel_rfl) (by kernel_rfl) (fun _ _ _ h => h) (Or.inl ⟨by rfl, ?_⟩) hHeld ?_
  rotate_left
  · (intro w' hSw; obtain ⟨k0, k1⟩ := hSw; go_simp; try with_reducible rfl)
  try simp only [Act.put, List.setIfInBounds_toArray, List.set_cons_zero, List.set_cons_succ]
  refine OrdL.wpL_take (i := 3) (v := ?_) opAt_3 [] (by kernel_rfl) (by kernel_rfl) (by kernel_rfl) (by kernel_rfl) (by kernel_rfl) (by kernel_rfl) (fun _ _ _ h => h) (Or.inl ⟨by rfl, ?_⟩) hHeld ?_
  rotate_left
  · (intro w' hSw; obtain ⟨k0, k1⟩ := hSw; go_simp; try with_reducible rfl)
  try simp only [Act.put, List.setIfInBounds_toArray, List.set_cons_zero, List.set_cons_succ]
  refine OrdL.wpL_take (i := 4) (v := ?_) opAt_4 [] (by kernel_rfl) (by kernel_rfl) (by kernel_rfl) (by kernel_rfl) (by kernel_rfl) (by kernel_rfl) (fun _ _ _ h => h) (Or.inl ⟨by rfl, ?_⟩) hHeld ?_
  rotate_left
  · (intro w' hSw; obtain ⟨k0, k1⟩ := hSw; go_simp; try with_reducible rfl)
  try simp only [Act.put, List.setIfInBounds_toArray, List.set_cons_zero, List.set_cons_succ]
  refine OrdL.wpL_take (i := 5) (v := ?_) opAt_5 [] (by kernel_rfl) (by kernel_rfl) (by kernel_rfl) (by kernel_rfl) (by kernel_rfl) (by kernel_rfl) (fun _ _ _ h => h) (Or.inl ⟨by rfl, ?_⟩) hHeld ?_
  rotate_left
  · (intro w' hSw; obtain ⟨k0, k1⟩ := hSw; go_simp; try with_reducible rfl)
  try simp only [Act.put, List.setIfInBounds_toArray, List.set_cons_zero, List.set_cons_succ]
  refine OrdL.wpL_take (i := 7) (v := ?_) opAt_7 [] (by kernel_rfl) (by kernel_rfl) (by kernel_rfl) (by kernel_rfl) (by kernel_rfl) (by kernel_rfl) (fun _ _ _ h => h) (Or.inl ⟨by rfl, ?_⟩) hHeld ?_
  rotate_left
  · (intro w' hSw; obtain ⟨k0, k1⟩ := hSw; go_simp; try with_reducible rfl)
  try simp only [Act.put, List.setIfInBounds_toArray, List.set_cons_zero, List.set_cons_succ]
  refine OrdL.wpL_take (i := 9) (v := ?_) opAt_9 [] (by kernel_rfl) (by kernel_rfl) (by kernel_rfl) (by kernel_rfl) (by kernel_rfl) (by kernel_rfl) (fun _ _ _ h => h) (Or.inl ⟨by rfl, ?_⟩) hHeld ?_
  rotate_left
  · (intro w' hSw; obtain ⟨k0, k1⟩ := hSw; go_simp; try with_reducible rfl)
  try simp only [Act.put, List.setIfInBounds_toArray, List.set_cons_zero, List.set_cons_succ]
  refine OrdL.wpL_take (i := 10) (v := ?_) opAt_10 [] (by kernel_rfl) (by kernel_rfl) (by kernel_rfl) (by kernel_rfl) (by kernel_rfl) (by kernel_rfl) (fun _ _ _ h => h) (Or.inl ⟨by rfl, ?_⟩) hHeld ?_
  rotate_left
  · (intro w' hSw; obtain ⟨k0, k1⟩ := hSw; go_simp; try with_reducible rfl)
  try simp only [Act.put, List.setIfInBounds_toArray, List.set_cons_zero, List.set_cons_succ]
  refine OrdL.wpL_ready (rs := [6]) (by kernel_rfl) (by simp) ?_
  refine OrdL.AllL.cons rfl (fun K hK => ?_) OrdL.AllL.nil
  go_simp
  obtain ⟨lv, ll, hlv, hll, hle, hcall⟩ := rlist HD.out (by omega)
  rw [HSt.out] at hll
  injection hll with hll
  subst hll
  refine hcall.mono ?_
  rintro e w1 ⟨rfl, hb1⟩
  go_wp2_with fail
  have HD1 := Lib.hid (HD.out.on hb1)
  have HB1 := Lib.hid (HBd.out.trans (hb1.mono HBd.out.size))
  have HE1 := Lib.hid (hle.es.on hb1)
  clear hHeld hcall hlv hle hb1
  have hHeld : w1.cell? ⟨X, 0, none⟩ = some vs ∧ w1.cell? ⟨X, 1, none⟩ = some (.int .u64 (last : Int)) := ⟨HD1.out.c0, HD1.out.c1⟩
  refine hK.out _ _ (fun _ => hHeld) ?_
  clear hK K
  try simp only [Act.put, List.setIfInBounds_toArray, List.set_cons_zero, List.set_cons_succ]
  refine OrdL.wpL_ready (rs := [8]) (by kernel_rfl) (by simp) ?_
  refine OrdL.AllL.cons rfl (fun K hK => ?_) OrdL.AllL.nil
  go_simp
  refine (rwithout HE1.out n (by omega)).mono ?_
  rintro e wm ⟨rr, rfl, hom, hbm⟩
  obtain ⟨Aq, cq, heq, _, _, _⟩ := own_slice hom
  obtain ⟨nq, hnq⟩ : ∃ nq, nq = (withoutL l n).length := ⟨_, rfl⟩
  rw [← hnq] at heq
  have Hnq := Lib.hid hnq
  clear hnq
  subst heq
  go_wp2_with fail
  have HDm := Lib.hid (HD1.out.on hbm)
  have HBm := Lib.hid (HB1.out.trans (hbm.mono HB1.out.size))
  have HEm := Lib.hid (Es.of_own hom)
  clear hHeld hom hbm
  have hHeld : wm.cell? ⟨X, 0, none⟩ = some vs ∧ wm.cell? ⟨X, 1, none⟩ = some (.int .u64 (last : Int)) := ⟨HDm.out.c0, HDm.out.c1⟩
  refine hK.out _ _ (fun _ => hHeld) ?_
  clear hK K
  try simp only [Act.put, List.setIfInBounds_toArray, List.set_cons_zero, List.set_cons_succ]
  refine OrdL.wpL_ready (rs := [11]) (by kernel_rfl) (by simp) ?_
  refine OrdL.AllL.cons rfl (fun K hK => ?_) OrdL.AllL.nil
  go_simp
  refine (rwith HEm.out to ino (by omega) (Nat.le_trans (withoutL_length l n) hk)).mono ?_
  rintro e w2 ⟨r, rfl, ho2, hb2⟩
  obtain ⟨Ar, cr, her, _, _, _⟩ := own_slice ho2
  obtain ⟨nr, hnr⟩ : ∃ nr, nr = (withL (withoutL l n) to ino).length := ⟨_, rfl⟩
  rw [← hnr] at her
  have Hnr := Lib.hid hnr
  clear hnr
  subst her
  go_wp2_with fail
  have HD2 := Lib.hid (HDm.out.on hb2)
  have HB2 := Lib.hid (HBm.out.trans (hb2.mono HBm.out.size))
  have HE2 := Lib.hid (EsIn.of_own ho2)
  have HK2 : Hid (∀ i, (Value.slice Ar nr cr).ownBlock = some i → w.heap.size ≤ i ∧ i < w2.heap.size) := fun i hi => ⟨Nat.le_trans HBm.out.size (ho2.lt i hi).1, (ho2.lt i hi).2⟩
  clear hHeld ho2 hb2
  have hHeld : w2.cell? ⟨X, 0, none⟩ = some vs ∧ w2.cell? ⟨X, 1, none⟩ = some (.int .u64 (last : Int)) := ⟨HD2.out.c0, HD2.out.c1⟩
  refine hK.out _ _ (fun _ => hHeld) ?_
  clear hK K
  try simp only [Act.put, List.setIfInBounds_toArray, List.set_cons_zero, List.set_cons_succ]
  refine OrdL.wpL_ready (rs := [12]) (by kernel_rfl) (by simp) ?_
  refine OrdL.AllL.cons rfl (fun K hK => ?_) OrdL.AllL.nil
  go_simp
  have hnew : Below w2.heap.size w2 (w2.alloc (.cells #[.slice Ar nr cr] 44)) := (Below.refl _ _).alloc (Nat.le_refl _) _
  have HD3 := Lib.hid (HD2.out.on hnew)
  have HB3 := Lib.hid (HB2.out.trans (hnew.mono HB2.out.size))
  have HE3 := Lib.hid (HE2.out.chg (Chg.of_below (M := fun _ => False) hnew) (fun _ e => e.elim))
  have HK3 : Hid (∀ i, (Value.slice Ar nr cr).ownBlock = some i → w.heap.size ≤ i ∧ i < (w2.alloc (.cells #[.slice Ar nr cr] 44)).heap.size) := fun i hi => ⟨(HK2.out i hi).1, Nat.lt_of_lt_of_le (HK2.out i hi).2 hnew.size⟩
  have HEl : Hid ((w2.alloc (.cells #[.slice Ar nr cr] 44)).cell? ⟨w2.heap.size, 0, none⟩ = some (.slice Ar nr cr)) := cell_new1 _ _ _
  have HnX : Hid (w2.heap.size < (w2.alloc (.cells #[.slice Ar nr cr] 44)).heap.size) := by show _ < _; simp
  clear hHeld hnew
  generalize World.alloc w2 _ = w3 at *
  have hHeld : w3.cell? ⟨X, 0, none⟩ = some vs ∧ w3.cell? ⟨X, 1, none⟩ = some (.int .u64 (last : Int)) := ⟨HD3.out.c0, HD3.out.c1⟩
  refine hK.out _ _ (fun _ => hHeld) ?_
  clear hK K
  try simp only [Act.put, List.setIfInBounds_toArray, List.set_cons_zero, List.set_cons_succ]
  refine OrdL.wpL_ready (rs := [13]) (by kernel_rfl) (by simp) ?_
  refine OrdL.AllL.cons rfl (fun K hK => ?_) OrdL.AllL.nil
  obtain ⟨Av, cv, hev, _, hcm, _⟩ := own_slice HD3.out.own
  obtain ⟨ns, hns⟩ : ∃ ns, ns = sts.length := ⟨_, rfl⟩
  have hvs : vs = .slice Av ns cv := by rw [hns]; exact hev
  have Hvs := Lib.hid hvs
  have Hns := Lib.hid hns
  have hnsl : ns ≤ 100000 := by omega
  have HOo : Hid (w3.ownsRow 0 44 1 vs ns vals) := by rw [hns]; exact HD3.out.own
  clear hev hns hvs
  refine step_append_1 (o := (⟨some 41, _, _, _, _, _⟩ : Oper)) w3 rfl (.tmp 32) (.tmp 40) 47 rfl 44 i0 (.slice none 0 0) 24 Try.underlying47 hi0 hz0 hz1 hz2 rfl vs ns vals rfl HOo.out w2.heap.size 1 (.slice Ar nr cr) rfl HEl.out rfl (by unfold maxLen; omega) (by omega) ?_
  intro v4 w4 hown4 hg4 hv4
  dsimp only [Act.put, Array.getElem_toList, List.getElem_toArray, List.getElem_cons_succ, List.getElem_cons_zero]
  have hc4 : Chg (fun i => vs.ownBlock = some i) w3 w4 := Chg.of_grown hg4 (fun g hg => hg)
  have hXlt := HD3.out.ltX
  have hXn : ¬ vs.ownBlock = some X := HD3.out.ne
  have HC4 := Lib.hid hc4
  have c04 : w4.cell? ⟨X, 0, none⟩ = some vs := (hc4.cell (p := ⟨X, 0, none⟩) hXlt hXn).trans HD3.out.c0
  have c14 : w4.cell? ⟨X, 1, none⟩ = some (.int .u64 (last : Int)) := (hc4.cell (p := ⟨X, 1, none⟩) hXlt hXn).trans HD3.out.c1
  have f04 : w4.frozen? ⟨X, 0, none⟩ = false := (hc4.frozen (p := ⟨X, 0, none⟩) hXlt hXn).trans HD3.out.f0
  have f14 : w4.frozen? ⟨X, 1, none⟩ = false := (hc4.frozen (p := ⟨X, 1, none⟩) hXlt hXn).trans HD3.out.f1
  have HE4 := Lib.hid (HE3.out.chg hc4 (fun i hi e => by have h1 := HK3.out i e; have h2 := (HOw.out i hi); omega))
  have HO4 := Lib.hid hown4
  have HV4 := Lib.hid hv4
  have Hc04 := Lib.hid c04
  have Hc14 := Lib.hid c14
  have Hf04 := Lib.hid f04
  have Hf14 := Lib.hid f14
  have Hw4 : Hid (w3.heap.size ≤ w4.heap.size) := hc4.size
  clear hHeld hown4 hg4 hv4 hc4 c04 c14 f04 f14
  obtain ⟨A4, c4, rfl, _, _, _⟩ := own_slice HO4.out
  have hHeld : w4.cell? ⟨X, 0, none⟩ = some vs ∧ w4.cell? ⟨X, 1, none⟩ = some (.int .u64 (last : Int)) := ⟨Hc04.out, Hc14.out⟩
  refine hK.out _ _ (fun _ => hHeld) ?_
  clear hK K
  try simp only [Act.put, List.setIfInBounds_toArray, List.set_cons_zero, List.set_cons_succ]
  refine OrdL.wpL_take (i := 14) (v := ?_) opAt_14 [15] (by kernel_rfl) (by kernel_rfl) (by kernel_rfl) (by kernel_rfl) (by kernel_rfl) (by kernel_rfl) (fun _ _ _ h => h) (Or.inl ⟨by rfl, ?_⟩) hHeld ?_
  rotate_left
  · (intro w' hSw; obtain ⟨k0, k1⟩ := hSw; go_simp; try with_reducible rfl)
  try simp only [Act.put, List.setIfInBounds_toArray, List.set_cons_zero, List.set_cons_succ]
  refine OrdL.wpL_take (i := 15) (v := ?_) opAt_15 [] (by kernel_rfl) (by kernel_rfl) (by kernel_rfl) (by kernel_rfl) (by kernel_rfl) (by kernel_rfl) (fun _ _ _ h => h) (Or.inl ⟨by rfl, ?_⟩) hHeld ?_
  rotate_left
  · (intro w' hSw; obtain ⟨k0, k1⟩ := hSw; go_simp; try with_reducible rfl)
  try simp only [Act.put, List.setIfInBounds_toArray, List.set_cons_zero, List.set_cons_succ]
  refine OrdL.wpL_ready (rs := [16]) (by kernel_rfl) (by simp) ?_
  refine OrdL.AllL.cons rfl (fun K hK => ?_) OrdL.AllL.nil
  have f04 := Hf04.out
  have c04 := Hc04.out
  go_simp
  refine hK.out _ _ (fun h => by simp at h) ?_
  refine OrdL.wpL_done (by kernel_rfl) ?_ _
  refine NoPanic.normal ?_
  clear f04 c04 hHeld
  go_wp2_with fail
  go_ret
  have hcS : Chg (fun i => i = X) w4 (w4.setCell ⟨X, 0, none⟩ (.slice A4 (ns + 1) c4)) := (Chg.refl (M := fun i => i = X) (w := w4)).setCell (p := ⟨X, 0, none⟩) rfl _
  have hvw : ∀ g, vs.ownBlock = some g → g < w.heap.size := fun g hg => (H.out.own.lt g hg).2
  have hob : (Value.slice A4 (ns + 1) c4).ownBlock = vs.ownBlock ∨ ∀ g, (Value.slice A4 (ns + 1) c4).ownBlock = some g → w3.heap.size ≤ g := HV4.out.imp id (fun h1 g hg => by rw [h1] at hg; injection hg with hg; omega)
  have hs3 := HB3.out.size
  have hXw := H.out.ltX
  have hXne := H.out.ne
  have h4X : ∀ g, (Value.slice A4 (ns + 1) c4).ownBlock = some g → g ≠ X := fun g hg e => by
    subst e
    rcases hob with h1 | h1
    · exact hXne (h1 ▸ hg)
    · have := h1 _ hg; omega
  have hcW : Chg (fun i => i = X ∨ vs.ownBlock = some i) w (w4.setCell ⟨X, 0, none⟩ (.slice A4 (ns + 1) c4)) := ((Chg.of_below (M := fun i => i = X ∨ vs.ownBlock = some i) HB3.out).trans HC4.out (fun i hi => .inl (.inr hi))).trans hcS (fun i hi => .inl (.inl hi))
  refine ⟨rfl, H.out.push hcW (World.cell?_setCell_same _ _ _ Hc04.out) ((World.cell?_setCell_other _ _ _ _ (by intro e; injection e with _ e; omega)).trans Hc14.out) (by rw [World.frozen?_setCell]; exact Hf04.out) (by rw [World.frozen?_setCell]; exact Hf14.out) (hcS.own (by have := HO4.out; rw [Hns.out] at this; rw [Hns.out]; exact this) (fun g hg e => h4X g hg e)) (hob.imp id (fun h1 g hg => Nat.le_trans hs3 (h1 g hg))) (HE4.out.chg hcS (fun i hi e => by have := (HK3.out i e).1; omega)) (fun i hi => ⟨(HK3.out i hi).1, Nat.lt_of_lt_of_le (Nat.lt_of_lt_of_le (HK3.out i hi).2 Hw4.out) hcS.size⟩) (fun g hg e => ?_)⟩
  have h5 := HK3.out g e
  rcases hob with h6 | h6
  · have := hvw g (h6 ▸ hg); omega
  · have := h6 g hg; omega
end
end Go.Proofs.Ytpjmjcjikaekiaa

/-
  Layer 6: the document's folder: Create.
-/
set_option linter.unusedVariables false
set_option linter.unusedSimpArgs false
namespace Go.Proofs.Ytpjmjcjikaekiaa
open Go.RowKit

section
variable {w : World} {X : Nat} {N : Nat → Prop} {vs : Value} {vals : List Value} {sts : List (List Ent)} {last : Nat}

theorem RFol.bump (h : RFol w X N vs vals sts last) (k : Nat) : RFol (w.setCell ⟨X, 1, none⟩ (.int .u64 (k : Int))) X N vs vals sts k := by
  have hc : Chg (fun i => i = X) w (w.setCell ⟨X, 1, none⟩ (.int .u64 (k : Int))) := (Chg.refl (M := fun i => i = X) (w := w)).setCell (p := ⟨X, 1, none⟩) rfl _
  exact ⟨(World.cell?_setCell_other _ _ _ _ (by intro e; injection e with _ e; omega)).trans h.c0, World.cell?_setCell_same _ _ _ h.c1, by rw [World.frozen?_setCell]; exact h.f0, by rw [World.frozen?_setCell]; exact h.f1, hc.own h.own (fun g hg e => h.ne (e ▸ hg)), h.each.chg hc (fun i hi e => h.nx (hi ▸ e)), h.ne, h.nx, h.nv, fun i hi => Nat.lt_of_lt_of_le (h.nlt i hi) hc.size, h.pos⟩
theorem RMut.after {w w1 w' : World} {X : Nat} {N : Nat → Prop} {vs : Value} {sts : List (List Ent)} {last : Nat} (hc : Chg (fun i => i = X) w w1) (h : RMut w1 w' X N vs sts last) : RMut w w' X N vs sts last := by
  obtain ⟨vs', vals', N', h1, h2, h3, h4⟩ := h
  exact ⟨vs', vals', N', h1, (hc.mono (fun i hi => .inl hi)).trans h2 (fun i hi => .inl hi), h3.imp id (fun h g hg => Nat.le_trans hc.size (h g hg)), fun i hi => (h4 i hi).imp id (fun h => Nat.le_trans hc.size h)⟩
set_option maxRecDepth 100000 in
set_option maxHeartbeats 4000000 in
theorem rcreate (h : RFol w X N vs vals sts last) (hl : sts.length ≤ 100000) (l : List Ent) (hst : sts[sts.length - 1]? = some l) (hk : l.length < 256) (hla : last ≤ 1000000) (n : ByteArray) (hn : n.size ≤ 9223372036854775807) (hm : mayN n = true) (hf : findL l n = none) :
    Calls Try.prog 36 #[.pointer (some ⟨X, 0, none⟩), .string n] w fun e w' => e = .returned (.tuple #[.int .u64 ((last + 1 : Nat) : Int), .int .i64 0]) ∧ RMut w w' X N vs (sts ++ [withL l n (last + 1)]) (last + 1) := by
  obtain ⟨i0, hi0, hz0, hz1, hz2⟩ := info_parts sts_info
  have H0 := Lib.hid h
  have HM := Lib.hid hm
  have HF := Lib.hid hf
  have HSt := Lib.hid hst
  obtain ⟨la, hlae⟩ : ∃ la, la = last + 1 := ⟨_, rfl⟩
  rw [← hlae]
  have hls : (last : Int) + 1 = (la : Int) := by omega
  have hlab : la ≤ 1000001 := by omega
  have Hla := Lib.hid hlae
  clear h hm hf hst hlae
  go_enter Try.func36, Try.ntmps36
  go_wp2_with fail
  refine (rmay_any n _ hn).mono ?_
  rintro e wa ⟨rfl, hb⟩
  rw [HM.out]
  have HB := Lib.hid hb
  clear hb
  go_wp2_with fail
  refine (rfind (H0.out.on HB.out) (by omega) l HSt.out (by omega) n).mono ?_
  rintro e wb ⟨rfl, hb⟩
  rw [HF.out]
  have HBb := Lib.hid (HB.out.trans (hb.mono HB.out.size))
  clear hb HB
  go_wp2_with fail
  have HH1 := Lib.hid (H0.out.on HBb.out)
  obtain ⟨lv, ll, hlv, hll, hle, hcall⟩ := rlist HH1.out (by omega)
  rw [HSt.out] at hll
  injection hll with hll
  subst hll
  obtain ⟨Al, cl, hel, _, _⟩ := hle
  obtain ⟨nl, hnl⟩ : ∃ nl, nl = l.length := ⟨_, rfl⟩
  rw [← hnl] at hel
  have hnl2 : nl < 256 := by omega
  have hge : decide ((nl : Int) ≥ 256) = false := decide_eq_false (by omega)
  clear hnl
  subst hel
  refine hcall.mono ?_
  rintro e wc ⟨rfl, hb⟩
  have HBc := Lib.hid (HBb.out.trans (hb.mono HBb.out.size))
  have HH2 := Lib.hid (H0.out.on HBc.out)
  clear hb hcall hlv HBb HH1
  have c1 := HH2.out.c1
  have f1 := HH2.out.f1
  go_wp2_with fail
  clear c1 f1
  have HcB : Hid (Chg (fun i => i = X) w (wc.setCell ⟨X, 1, none⟩ (.int .u64 (la : Int)))) := (Chg.of_below (M := fun i => i = X) HBc.out).setCell (p := ⟨X, 1, none⟩) rfl _
  have H := Lib.hid (HH2.out.bump la)
  generalize World.setCell wc _ _ = wS at *
  have HB2 : Hid (Below wS.heap.size wS wS) := Below.refl _ _
  have HD := Lib.hid (H.out.on HB2.out).on_drew
  have HBd : Hid (Below wS.heap.size wS wS.drew) := HB2.out.drew
  refine wp_region_noPanic ?_
  refine OrdL.wpL_region (fun w' => w'.cell? ⟨X, 0, none⟩ = some vs ∧ w'.cell? ⟨X, 1, none⟩ = some (.int .u64 (la : Int))) 17 (by kernel_rfl) ?_
  clear HB2
  generalize World.drew _ = W at *
  have hHeld : W.cell? ⟨X, 0, none⟩ = some vs ∧ W.cell? ⟨X, 1, none⟩ = some (.int .u64 (la : Int)) := ⟨HD.out.c0, HD.out.c1⟩
  have HOw : Hid (∀ g, vs.ownBlock = some g → g < wS.heap.size) := fun g hg => (H.out.own.lt g hg).2
  refine OrdL.wpL_take (i := 0) (v := ?_) opAt_0 [] (by kernel_rfl) (by kernel_rfl) (by kernel_rfl) (by kernel_rfl) (by kernel_rfl) (by kernel_rfl) (fun _ _ _ h => h) (Or.inl ⟨by rfl, ?_⟩) hHeld ?_
  rotate_left
  · (intro w' hSw; obtain ⟨k0, k1⟩ := hSw; go_simp; try with_reducible rfl)
  try simp only [Act.put, List.setIfInBounds_toArray, List.set_cons_zero, List.set_cons_succ]
  refine OrdL.wpL_take (i := 1) (v := ?_) opAt_1 [] (by kernel_rfl) (by kernel_rfl) (by kernel_rfl) (by kernel_rfl) (by kernel_rfl) (by kernel_rfl) (fun _ _ _ h => h) (Or.inl ⟨by rfl, ?_⟩) hHeld ?_
  rotate_left
  · (intro w' hSw; obtain ⟨k0, k1⟩ := hSw; go_simp; try with_reducible rfl)
  try simp only [Act.put, List.setIfInBounds_toArray, List.set_cons_zero, List.set_cons_succ]
  refine OrdL.wpL_take (i := 2) (v := ?_) opAt_2 [] (by kernel_rfl) (by kernel_rfl) (by kernel_rfl) (by kernel_rfl) (by kernel_rfl) (by kernel_rfl) (fun _ _ _ h => h) (Or.inl ⟨by rfl, ?_⟩) hHeld ?_
  rotate_left
  · (intro w' hSw; obtain ⟨k0, k1⟩ := hSw; go_simp; try with_reducible rfl)
  try simp only [Act.put, List.setIfInBounds_toArray, List.set_cons_zero, List.set_cons_succ]
  refine OrdL.wpL_take (i := 3) (v := ?_) opAt_3 [] (by kernel_rfl) (by kernel_rfl) (by kernel_rfl) (by kernel_rfl) (by kernel_rfl) (by kernel_rfl) (fun _ _ _ h => h) (Or.inl ⟨by rfl, ?_⟩) hHeld ?_
  rotate_left
  · (intro w' hSw; obtain ⟨k0, k1⟩ := hSw; go_simp; try with_reducible rfl)
  try simp only [Act.put, List.setIfInBounds_toArray, List.set_cons_zero, List.set_cons_succ]
  refine OrdL.wpL_take (i := 4) (v := ?_) opAt_4 [] (by kernel_rfl) (by kernel_rfl) (by kernel_rfl) (by kernel_rfl) (by kernel_rfl) (by kernel_rfl) (fun _ _ _ h => h) (Or.inl ⟨by rfl, ?_⟩) hHeld ?_
  rotate_left
  · (intro w' hSw; obtain ⟨k0, k1⟩ := hSw; go_simp; try with_reducible rfl)
  try simp only [Act.put, List.setIfInBounds_toArray, List.set_cons_zero, List.set_cons_succ]
  refine OrdL.wpL_take (i := 5) (v := ?_) opAt_5 [] (by kernel_rfl) (by kernel_rfl) (by kernel_rfl) (by kernel_rfl) (by kernel_rfl) (by kernel_rfl) (fun _ _ _ h => h) (Or.inl ⟨by rfl, ?_⟩) hHeld ?_
  rotate_left
  · (intro w' hSw; obtain ⟨k0, k1⟩ := hSw; go_simp; try with_reducible rfl)
  try simp only [Act.put, List.setIfInBounds_toArray, List.set_cons_zero, List.set_cons_succ]
  refine OrdL.wpL_take (i := 7) (v := ?_) opAt_7 [] (by kernel_rfl) (by kernel_rfl) (by kernel_rfl) (by kernel_rfl) (by kernel_rfl) (by kernel_rfl) (fun _ _ _ h => h) (Or.inl ⟨by rfl, ?_⟩) hHeld ?_
  rotate_left
  · (intro w' hSw; obtain ⟨k0, k1⟩ := hSw; go_simp; try with_reducible rfl)
  try simp only [Act.put, List.setIfInBounds_toArray, List.set_cons_zero, List.set_cons_succ]
  refine OrdL.wpL_take (i := 8) (v := ?_) opAt_8 [] (by kernel_rfl) (by kernel_rfl) (by kernel_rfl) (by kernel_rfl) (by kernel_rfl) (by kernel_rfl) (fun _ _ _ h => h) (Or.inl ⟨by rfl, ?_⟩) hHeld ?_
  rotate_left
  · (intro w' hSw; obtain ⟨k0, k1⟩ := hSw; go_simp; try with_reducible rfl)
  try simp only [Act.put, List.setIfInBounds_toArray, List.set_cons_zero, List.set_cons_succ]
  refine OrdL.wpL_take (i := 9) (v := ?_) opAt_9 [] (by kernel_rfl) (by kernel_rfl) (by kernel_rfl) (by kernel_rfl) (by kernel_rfl) (by kernel_rfl) (fun _ _ _ h => h) (Or.inl ⟨by rfl, ?_⟩) hHeld ?_
  rotate_left
  · (intro w' hSw; obtain ⟨k0, k1⟩ := hSw; go_simp; try with_reducible rfl)
  try simp only [Act.put, List.setIfInBounds_toArray, List.set_cons_zero, List.set_cons_succ]
  refine OrdL.wpL_take (i := 10) (v := ?_) opAt_10 [] (by kernel_rfl) (by kernel_rfl) (by kernel_rfl) (by kernel_rfl) (by kernel_rfl) (by kernel_rfl) (fun _ _ _ h => h) (Or.inl ⟨by rfl, ?_⟩) hHeld ?_
  rotate_left
  · (intro w' hSw; obtain ⟨k0, k1⟩ := hSw; go_simp; try with_reducible rfl)
  try simp only [Act.put, List.setIfInBounds_toArray, List.set_cons_zero, List.set_cons_succ]
  refine OrdL.wpL_take (i := 11) (v := ?_) opAt_11 [] (by kernel_rfl) (by kernel_rfl) (by kernel_rfl) (by kernel_rfl) (by kernel_rfl) (by kernel_rfl) (fun _ _ _ h => h) (Or.inl ⟨by rfl, ?_⟩) hHeld ?_
  rotate_left
  · (intro w' hSw; obtain ⟨k0, k1⟩ := hSw; go_simp; try with_reducible rfl)
  try simp only [Act.put, List.setIfInBounds_toArray, List.set_cons_zero, List.set_cons_succ]
  refine OrdL.wpL_ready (rs := [6]) (by kernel_rfl) (by simp) ?_
  refine OrdL.AllL.cons rfl (fun K hK => ?_) OrdL.AllL.nil
  go_simp
  obtain ⟨lv, ll, hlv, hll, hle, hcall⟩ := rlist HD.out (by omega)
  rw [HSt.out] at hll
  injection hll with hll
  subst hll
  refine hcall.mono ?_
  rintro e w1 ⟨rfl, hb1⟩
  go_wp2_with fail
  have HD1 := Lib.hid (HD.out.on hb1)
  have HB1 := Lib.hid (HBd.out.trans (hb1.mono HBd.out.size))
  have HE1 := Lib.hid (hle.es.on hb1)
  clear hHeld hcall hlv hle hb1
  have hHeld : w1.cell? ⟨X, 0, none⟩ = some vs ∧ w1.cell? ⟨X, 1, none⟩ = some (.int .u64 (la : Int)) := ⟨HD1.out.c0, HD1.out.c1⟩
  refine hK.out _ _ (fun _ => hHeld) ?_
  clear hK K
  try simp only [Act.put, List.setIfInBounds_toArray, List.set_cons_zero, List.set_cons_succ]
  refine OrdL.wpL_ready (rs := [12]) (by kernel_rfl) (by simp) ?_
  refine OrdL.AllL.cons rfl (fun K hK => ?_) OrdL.AllL.nil
  go_simp
  refine (rwith HE1.out n la (by omega) (by omega)).mono ?_
  rintro e w2 ⟨r, rfl, ho2, hb2⟩
  obtain ⟨Ar, cr, her, _, _, _⟩ := own_slice ho2
  obtain ⟨nr, hnr⟩ : ∃ nr, nr = (withL (l) n la).length := ⟨_, rfl⟩
  rw [← hnr] at her
  have Hnr := Lib.hid hnr
  clear hnr
  subst her
  go_wp2_with fail
  have HD2 := Lib.hid (HD1.out.on hb2)
  have HB2 := Lib.hid (HB1.out.trans (hb2.mono HB1.out.size))
  have HE2 := Lib.hid (EsIn.of_own ho2)
  have HK2 : Hid (∀ i, (Value.slice Ar nr cr).ownBlock = some i → wS.heap.size ≤ i ∧ i < w2.heap.size) := fun i hi => ⟨Nat.le_trans HB1.out.size (ho2.lt i hi).1, (ho2.lt i hi).2⟩
  clear hHeld ho2 hb2
  have hHeld : w2.cell? ⟨X, 0, none⟩ = some vs ∧ w2.cell? ⟨X, 1, none⟩ = some (.int .u64 (la : Int)) := ⟨HD2.out.c0, HD2.out.c1⟩
  refine hK.out _ _ (fun _ => hHeld) ?_
  clear hK K
  try simp only [Act.put, List.setIfInBounds_toArray, List.set_cons_zero, List.set_cons_succ]
  refine OrdL.wpL_ready (rs := [13]) (by kernel_rfl) (by simp) ?_
  refine OrdL.AllL.cons rfl (fun K hK => ?_) OrdL.AllL.nil
  go_simp
  have hnew : Below w2.heap.size w2 (w2.alloc (.cells #[.slice Ar nr cr] 44)) := (Below.refl _ _).alloc (Nat.le_refl _) _
  have HD3 := Lib.hid (HD2.out.on hnew)
  have HB3 := Lib.hid (HB2.out.trans (hnew.mono HB2.out.size))
  have HE3 := Lib.hid (HE2.out.chg (Chg.of_below (M := fun _ => False) hnew) (fun _ e => e.elim))
  have HK3 : Hid (∀ i, (Value.slice Ar nr cr).ownBlock = some i → wS.heap.size ≤ i ∧ i < (w2.alloc (.cells #[.slice Ar nr cr] 44)).heap.size) := fun i hi => ⟨(HK2.out i hi).1, Nat.lt_of_lt_of_le (HK2.out i hi).2 hnew.size⟩
  have HEl : Hid ((w2.alloc (.cells #[.slice Ar nr cr] 44)).cell? ⟨w2.heap.size, 0, none⟩ = some (.slice Ar nr cr)) := cell_new1 _ _ _
  have HnX : Hid (w2.heap.size < (w2.alloc (.cells #[.slice Ar nr cr] 44)).heap.size) := by show _ < _; simp
  clear hHeld hnew
  generalize World.alloc w2 _ = w3 at *
  have hHeld : w3.cell? ⟨X, 0, none⟩ = some vs ∧ w3.cell? ⟨X, 1, none⟩ = some (.int .u64 (la : Int)) := ⟨HD3.out.c0, HD3.out.c1⟩
  refine hK.out _ _ (fun _ => hHeld) ?_
  clear hK K
  try simp only [Act.put, List.setIfInBounds_toArray, List.set_cons_zero, List.set_cons_succ]
  refine OrdL.wpL_ready (rs := [14]) (by kernel_rfl) (by simp) ?_
  refine OrdL.AllL.cons rfl (fun K hK => ?_) OrdL.AllL.nil
  obtain ⟨Av, cv, hev, _, hcm, _⟩ := own_slice HD3.out.own
  obtain ⟨ns, hns⟩ : ∃ ns, ns = sts.length := ⟨_, rfl⟩
  have hvs : vs = .slice Av ns cv := by rw [hns]; exact hev
  have Hvs := Lib.hid hvs
  have Hns := Lib.hid hns
  have hnsl : ns ≤ 100000 := by omega
  have HOo : Hid (w3.ownsRow 0 44 1 vs ns vals) := by rw [hns]; exact HD3.out.own
  clear hev hns hvs
  refine step_append_1 (o := (⟨some 43, _, _, _, _, _⟩ : Oper)) w3 rfl (.tmp 33) (.tmp 42) 47 rfl 44 i0 (.slice none 0 0) 24 Try.underlying47 hi0 hz0 hz1 hz2 rfl vs ns vals rfl HOo.out w2.heap.size 1 (.slice Ar nr cr) rfl HEl.out rfl (by unfold maxLen; omega) (by omega) ?_
  intro v4 w4 hown4 hg4 hv4
  dsimp only [Act.put, Array.getElem_toList, List.getElem_toArray, List.getElem_cons_succ, List.getElem_cons_zero]
  have hc4 : Chg (fun i => vs.ownBlock = some i) w3 w4 := Chg.of_grown hg4 (fun g hg => hg)
  have hXlt := HD3.out.ltX
  have hXn : ¬ vs.ownBlock = some X := HD3.out.ne
  have HC4 := Lib.hid hc4
  have c04 : w4.cell? ⟨X, 0, none⟩ = some vs := (hc4.cell (p := ⟨X, 0, none⟩) hXlt hXn).trans HD3.out.c0
  have c14 : w4.cell? ⟨X, 1, none⟩ = some (.int .u64 (la : Int)) := (hc4.cell (p := ⟨X, 1, none⟩) hXlt hXn).trans HD3.out.c1
  have f04 : w4.frozen? ⟨X, 0, none⟩ = false := (hc4.frozen (p := ⟨X, 0, none⟩) hXlt hXn).trans HD3.out.f0
  have f14 : w4.frozen? ⟨X, 1, none⟩ = false := (hc4.frozen (p := ⟨X, 1, none⟩) hXlt hXn).trans HD3.out.f1
  have HE4 := Lib.hid (HE3.out.chg hc4 (fun i hi e => by have h1 := HK3.out i e; have h2 := (HOw.out i hi); omega))
  have HO4 := Lib.hid hown4
  have HV4 := Lib.hid hv4
  have Hc04 := Lib.hid c04
  have Hc14 := Lib.hid c14
  have Hf04 := Lib.hid f04
  have Hf14 := Lib.hid f14
  have Hw4 : Hid (w3.heap.size ≤ w4.heap.size) := hc4.size
  clear hHeld hown4 hg4 hv4 hc4 c04 c14 f04 f14
  obtain ⟨A4, c4, rfl, _, _, _⟩ := own_slice HO4.out
  have hHeld : w4.cell? ⟨X, 0, none⟩ = some vs ∧ w4.cell? ⟨X, 1, none⟩ = some (.int .u64 (la : Int)) := ⟨Hc04.out, Hc14.out⟩
  refine hK.out _ _ (fun _ => hHeld) ?_
  clear hK K
  try simp only [Act.put, List.setIfInBounds_toArray, List.set_cons_zero, List.set_cons_succ]
  refine OrdL.wpL_take (i := 15) (v := ?_) opAt_15 [16] (by kernel_rfl) (by kernel_rfl) (by kernel_rfl) (by kernel_rfl) (by kernel_rfl) (by kernel_rfl) (fun _ _ _ h => h) (Or.inl ⟨by rfl, ?_⟩) hHeld ?_
  rotate_left
  · (intro w' hSw; obtain ⟨k0, k1⟩ := hSw; go_simp; try with_reducible rfl)
  try simp only [Act.put, List.setIfInBounds_toArray, List.set_cons_zero, List.set_cons_succ]
  refine OrdL.wpL_take (i := 16) (v := ?_) opAt_16 [] (by kernel_rfl) (by kernel_rfl) (by kernel_rfl) (by kernel_rfl) (by kernel_rfl) (by kernel_rfl) (fun _ _ _ h => h) (Or.inl ⟨by rfl, ?_⟩) hHeld ?_
  rotate_left
  · (intro w' hSw; obtain ⟨k0, k1⟩ := hSw; go_simp; try with_reducible rfl)
  try simp only [Act.put, List.setIfInBounds_toArray, List.set_cons_zero, List.set_cons_succ]
  refine OrdL.wpL_ready (rs := [17]) (by kernel_rfl) (by simp) ?_
  refine OrdL.AllL.cons rfl (fun K hK => ?_) OrdL.AllL.nil
  have f04 := Hf04.out
  have c04 := Hc04.out
  go_simp
  refine hK.out _ _ (fun h => by simp at h) ?_
  refine OrdL.wpL_done (by kernel_rfl) ?_ _
  refine NoPanic.normal ?_
  clear f04 c04 hHeld
  have c1f : (w4.setCell ⟨X, 0, none⟩ (.slice A4 (ns + 1) c4)).cell? ⟨X, 1, none⟩ = some (.int .u64 (la : Int)) := (World.cell?_setCell_other _ _ _ _ (by intro e; injection e with _ e; omega)).trans Hc14.out
  go_wp2_with fail
  go_ret2
  have hcS : Chg (fun i => i = X) w4 (w4.setCell ⟨X, 0, none⟩ (.slice A4 (ns + 1) c4)) := (Chg.refl (M := fun i => i = X) (w := w4)).setCell (p := ⟨X, 0, none⟩) rfl _
  have hvw : ∀ g, vs.ownBlock = some g → g < wS.heap.size := fun g hg => (H.out.own.lt g hg).2
  have hob : (Value.slice A4 (ns + 1) c4).ownBlock = vs.ownBlock ∨ ∀ g, (Value.slice A4 (ns + 1) c4).ownBlock = some g → w3.heap.size ≤ g := HV4.out.imp id (fun h1 g hg => by rw [h1] at hg; injection hg with hg; omega)
  have hs3 := HB3.out.size
  have hXw := H.out.ltX
  have hXne := H.out.ne
  have h4X : ∀ g, (Value.slice A4 (ns + 1) c4).ownBlock = some g → g ≠ X := fun g hg e => by
    subst e
    rcases hob with h1 | h1
    · exact hXne (h1 ▸ hg)
    · have := h1 _ hg; omega
  have hcW : Chg (fun i => i = X ∨ vs.ownBlock = some i) wS (w4.setCell ⟨X, 0, none⟩ (.slice A4 (ns + 1) c4)) := ((Chg.of_below (M := fun i => i = X ∨ vs.ownBlock = some i) HB3.out).trans HC4.out (fun i hi => .inl (.inr hi))).trans hcS (fun i hi => .inl (.inl hi))
  refine ⟨rfl, RMut.after HcB.out ?_⟩
  refine H.out.push hcW (World.cell?_setCell_same _ _ _ Hc04.out) ((World.cell?_setCell_other _ _ _ _ (by intro e; injection e with _ e; omega)).trans Hc14.out) (by rw [World.frozen?_setCell]; exact Hf04.out) (by rw [World.frozen?_setCell]; exact Hf14.out) (hcS.own (by have := HO4.out; rw [Hns.out] at this; rw [Hns.out]; exact this) (fun g hg e => h4X g hg e)) (hob.imp id (fun h1 g hg => Nat.le_trans hs3 (h1 g hg))) (HE4.out.chg hcS (fun i hi e => by have := (HK3.out i e).1; omega)) (fun i hi => ⟨(HK3.out i hi).1, Nat.lt_of_lt_of_le (Nat.lt_of_lt_of_le (HK3.out i hi).2 Hw4.out) hcS.size⟩) (fun g hg e => ?_)
  have h5 := HK3.out g e
  rcases hob with h6 | h6
  · have := hvw g (h6 ▸ hg); omega
  · have := h6 g hg; omega
end
end Go.Proofs.Ytpjmjcjikaekiaa

/-
  Layer 6: the document's folder: what is refused; Crash.
-/
set_option linter.unusedVariables false
set_option linter.unusedSimpArgs false
namespace Go.Proofs.Ytpjmjcjikaekiaa
open Go.RowKit

section
variable {w : World} {X : Nat} {N : Nat → Prop} {vs : Value} {vals : List Value} {sts : List (List Ent)} {last : Nat}

theorem rcreate_arg (h : RFol w X N vs vals sts last) (hl : sts.length ≤ 100000) (l : List Ent) (hst : sts[sts.length - 1]? = some l) (hk : l.length ≤ 100000) (n : ByteArray) (hn : n.size ≤ 9223372036854775807) (hm : mayN n = false) :
    Calls Try.prog 36 #[.pointer (some ⟨X, 0, none⟩), .string n] w fun e w' => e = .returned (.tuple #[.int .u64 0, .int .i64 1]) ∧ Below w.heap.size w w' := by
  have H := Lib.hid h
  have HSt := Lib.hid hst
  clear h hst
  have Hm := Lib.hid hm
  clear hm
  go_enter Try.func36, Try.ntmps36
  go_wp2_with fail
  refine (rmay_any n _ hn).mono ?_
  rintro e wa ⟨rfl, hb⟩
  rw [Hm.out]
  have HB := Lib.hid hb
  clear hb
  go_wp2_with fail
  go_ret2
  exact ⟨rfl, HB.out⟩

theorem rcreate_there (h : RFol w X N vs vals sts last) (hl : sts.length ≤ 100000) (l : List Ent) (hst : sts[sts.length - 1]? = some l) (hk : l.length ≤ 100000) (n : ByteArray) (hn : n.size ≤ 9223372036854775807) (hm : mayN n = true) (hf : (findL l n).isSome = true) :
    Calls Try.prog 36 #[.pointer (some ⟨X, 0, none⟩), .string n] w fun e w' => e = .returned (.tuple #[.int .u64 0, .int .i64 9]) ∧ Below w.heap.size w w' := by
  have H := Lib.hid h
  have HSt := Lib.hid hst
  clear h hst
  have Hm := Lib.hid hm
  have Hf := Lib.hid hf
  clear hm hf
  go_enter Try.func36, Try.ntmps36
  go_wp2_with fail
  refine (rmay_any n _ hn).mono ?_
  rintro e wa ⟨rfl, hb⟩
  rw [Hm.out]
  have HB := Lib.hid hb
  clear hb
  go_wp2_with fail
  refine (rfind (H.out.on HB.out) (by omega) l HSt.out (by omega) n).mono ?_
  rintro e wb ⟨rfl, hb⟩
  rw [Hf.out]
  replace HB := Lib.hid (HB.out.trans (hb.mono HB.out.size))
  clear hb
  go_wp2_with fail
  go_ret2
  exact ⟨rfl, HB.out⟩

theorem rcreate_full (h : RFol w X N vs vals sts last) (hl : sts.length ≤ 100000) (l : List Ent) (hst : sts[sts.length - 1]? = some l) (hk : l.length ≤ 100000) (n : ByteArray) (hn : n.size ≤ 9223372036854775807) (hm : mayN n = true) (hf : (findL l n).isSome = false) (h256 : 256 ≤ l.length) :
    Calls Try.prog 36 #[.pointer (some ⟨X, 0, none⟩), .string n] w fun e w' => e = .returned (.tuple #[.int .u64 0, .int .i64 7]) ∧ Below w.heap.size w w' := by
  have H := Lib.hid h
  have HSt := Lib.hid hst
  clear h hst
  have Hm := Lib.hid hm
  have Hf := Lib.hid hf
  clear hm hf
  go_enter Try.func36, Try.ntmps36
  go_wp2_with fail
  refine (rmay_any n _ hn).mono ?_
  rintro e wa ⟨rfl, hb⟩
  rw [Hm.out]
  have HB := Lib.hid hb
  clear hb
  go_wp2_with fail
  refine (rfind (H.out.on HB.out) (by omega) l HSt.out (by omega) n).mono ?_
  rintro e wb ⟨rfl, hb⟩
  rw [Hf.out]
  replace HB := Lib.hid (HB.out.trans (hb.mono HB.out.size))
  clear hb
  go_wp2_with fail
  have HH1 := Lib.hid (H.out.on HB.out)
  obtain ⟨lv, ll, hlv, hll, hle, hcall⟩ := rlist HH1.out (by omega)
  rw [HSt.out] at hll
  injection hll with hll
  subst hll
  obtain ⟨Al, cl, hel, _, _⟩ := hle
  obtain ⟨nl, hnl⟩ : ∃ nl, nl = l.length := ⟨_, rfl⟩
  rw [← hnl] at hel
  have hnl2 : 256 ≤ nl := by omega
  have hnl3 : nl ≤ 100000 := by omega
  have hge : decide ((nl : Int) ≥ 256) = true := decide_eq_true (by omega)
  clear hnl
  subst hel
  refine hcall.mono ?_
  rintro e wc ⟨rfl, hb⟩
  replace HB := Lib.hid (HB.out.trans (hb.mono HB.out.size))
  clear hb hcall hlv HH1
  go_wp2_with fail
  go_ret2
  exact ⟨rfl, HB.out⟩

theorem rrename_arg (h : RFol w X N vs vals sts last) (hl : sts.length ≤ 100000) (l : List Ent) (hst : sts[sts.length - 1]? = some l) (hk : l.length ≤ 100000) (n to : ByteArray) (hn : n.size ≤ 9223372036854775807) (ht : to.size ≤ 9223372036854775807) (hm : mayN n = false) :
    Calls Try.prog 37 #[.pointer (some ⟨X, 0, none⟩), .string n, .string to] w fun e w' => e = .returned (.int .i64 1) ∧ Below w.heap.size w w' := by
  have H := Lib.hid h
  have HSt := Lib.hid hst
  clear h hst
  have Hm := Lib.hid hm
  clear hm
  go_enter Try.func37, Try.ntmps37
  go_wp2_with fail
  refine (rmay_any n _ hn).mono ?_
  rintro e wa ⟨rfl, hb⟩
  rw [Hm.out]
  have HB := Lib.hid hb
  clear hb
  go_wp2_with fail
  go_ret
  exact ⟨rfl, HB.out⟩

theorem rrename_arg2 (h : RFol w X N vs vals sts last) (hl : sts.length ≤ 100000) (l : List Ent) (hst : sts[sts.length - 1]? = some l) (hk : l.length ≤ 100000) (n to : ByteArray) (hn : n.size ≤ 9223372036854775807) (ht : to.size ≤ 9223372036854775807) (hm : mayN n = true) (hm2 : mayN to = false) :
    Calls Try.prog 37 #[.pointer (some ⟨X, 0, none⟩), .string n, .string to] w fun e w' => e = .returned (.int .i64 1) ∧ Below w.heap.size w w' := by
  have H := Lib.hid h
  have HSt := Lib.hid hst
  clear h hst
  have Hm := Lib.hid hm
  have Hm2 := Lib.hid hm2
  clear hm hm2
  go_enter Try.func37, Try.ntmps37
  go_wp2_with fail
  refine (rmay_any n _ hn).mono ?_
  rintro e wa ⟨rfl, hb⟩
  rw [Hm.out]
  have HB := Lib.hid hb
  clear hb
  go_wp2_with fail
  refine (rmay_any to _ ht).mono ?_
  rintro e wa ⟨rfl, hb⟩
  rw [Hm2.out]
  replace HB := Lib.hid (HB.out.trans (hb.mono HB.out.size))
  clear hb
  go_wp2_with fail
  go_ret
  exact ⟨rfl, HB.out⟩

theorem rrename_none (h : RFol w X N vs vals sts last) (hl : sts.length ≤ 100000) (l : List Ent) (hst : sts[sts.length - 1]? = some l) (hk : l.length ≤ 100000) (n to : ByteArray) (hn : n.size ≤ 9223372036854775807) (ht : to.size ≤ 9223372036854775807) (hm : mayN n = true) (hm2 : mayN to = true) (hf : (findL l n).isSome = false) :
    Calls Try.prog 37 #[.pointer (some ⟨X, 0, none⟩), .string n, .string to] w fun e w' => e = .returned (.int .i64 6) ∧ Below w.heap.size w w' := by
  have H := Lib.hid h
  have HSt := Lib.hid hst
  clear h hst
  have Hm := Lib.hid hm
  have Hm2 := Lib.hid hm2
  have Hf := Lib.hid hf
  clear hm hm2 hf
  go_enter Try.func37, Try.ntmps37
  go_wp2_with fail
  refine (rmay_any n _ hn).mono ?_
  rintro e wa ⟨rfl, hb⟩
  rw [Hm.out]
  have HB := Lib.hid hb
  clear hb
  go_wp2_with fail
  refine (rmay_any to _ ht).mono ?_
  rintro e wa ⟨rfl, hb⟩
  rw [Hm2.out]
  replace HB := Lib.hid (HB.out.trans (hb.mono HB.out.size))
  clear hb
  go_wp2_with fail
  refine (rfind (H.out.on HB.out) (by omega) l HSt.out (by omega) n).mono ?_
  rintro e wb ⟨rfl, hb⟩
  rw [Hf.out]
  replace HB := Lib.hid (HB.out.trans (hb.mono HB.out.size))
  clear hb
  go_wp2_with fail
  go_ret
  exact ⟨rfl, HB.out⟩

theorem rrename_same (h : RFol w X N vs vals sts last) (hl : sts.length ≤ 100000) (l : List Ent) (hst : sts[sts.length - 1]? = some l) (hk : l.length ≤ 100000) (n to : ByteArray) (hn : n.size ≤ 9223372036854775807) (ht : to.size ≤ 9223372036854775807) (hm : mayN n = true) (hm2 : mayN to = true) (hf : (findL l n).isSome = true) (hne : (n.toList == to.toList) = true) :
    Calls Try.prog 37 #[.pointer (some ⟨X, 0, none⟩), .string n, .string to] w fun e w' => e = .returned (.int .i64 0) ∧ Below w.heap.size w w' := by
  have H := Lib.hid h
  have HSt := Lib.hid hst
  clear h hst
  have Hm := Lib.hid hm
  have Hm2 := Lib.hid hm2
  have Hf := Lib.hid hf
  clear hm hm2 hf
  go_enter Try.func37, Try.ntmps37
  go_wp2_with fail
  refine (rmay_any n _ hn).mono ?_
  rintro e wa ⟨rfl, hb⟩
  rw [Hm.out]
  have HB := Lib.hid hb
  clear hb
  go_wp2_with fail
  refine (rmay_any to _ ht).mono ?_
  rintro e wa ⟨rfl, hb⟩
  rw [Hm2.out]
  replace HB := Lib.hid (HB.out.trans (hb.mono HB.out.size))
  clear hb
  go_wp2_with fail
  refine (rfind (H.out.on HB.out) (by omega) l HSt.out (by omega) n).mono ?_
  rintro e wb ⟨rfl, hb⟩
  rw [Hf.out]
  replace HB := Lib.hid (HB.out.trans (hb.mono HB.out.size))
  clear hb
  go_wp2_with fail
  go_ret
  exact ⟨rfl, HB.out⟩
end
end Go.Proofs.Ytpjmjcjikaekiaa

/-
  Layer 6: the document's folder: Crash.
-/
set_option linter.unusedVariables false
set_option linter.unusedSimpArgs false
namespace Go.Proofs.Ytpjmjcjikaekiaa
open Go.RowKit

section
variable {w : World} {X : Nat} {N : Nat → Prop} {vs : Value} {vals : List Value} {sts : List (List Ent)} {last : Nat}
theorem gbl {w w' : World} (h : w.grownBy w' none) : Below w.heap.size w w' := ⟨h.os, h.tape, h.output, h.size, fun k hk => h.block k hk (by simp)⟩
theorem rcrash_end {w1 : World} {v v1 : Value} {l : List Ent} (h : RFol w X N vs vals sts last) (hE : EsIn w N v l) (hb : Below w.heap.size w w1) (h1 : RFol w1 X N vs vals sts last) (ho : w1.ownsRow 0 44 1 v1 1 [v]) (hv : v1.ownBlock = none ∨ ∀ g, v1.ownBlock = some g → w.heap.size ≤ g) :
    RMut w (w1.setCell ⟨X, 0, none⟩ v1) X N vs [l] last := by
  have hX := h.ltX
  have hv' : ∀ g, v1.ownBlock = some g → w.heap.size ≤ g := fun g hg => hv.elim (fun e => by rw [e] at hg; cases hg) (fun e => e g hg)
  have hc : Chg (fun i => i = X) w1 (w1.setCell ⟨X, 0, none⟩ v1) := (Chg.refl (M := fun i => i = X) (w := w1)).setCell (p := ⟨X, 0, none⟩) rfl _
  refine ⟨v1, [v], N, ⟨World.cell?_setCell_same _ _ _ h1.c0, (World.cell?_setCell_other _ _ _ _ (by intro e; injection e with _ e; omega)).trans h1.c1, by rw [World.frozen?_setCell]; exact h1.f0, by rw [World.frozen?_setCell]; exact h1.f1, hc.own ho (fun g hg e => by have := hv' g hg; omega), ⟨rfl, fun i v' l' hv2 hl2 => ?_⟩, fun e => by have := hv' _ e; omega, h.nx, fun g hg e => by have := hv' g hg; have := h.nlt g e; omega, fun i hi => Nat.lt_of_lt_of_le (h1.nlt i hi) hc.size, by simp⟩, (Chg.of_below (M := fun i => i = X ∨ vs.ownBlock = some i) hb).trans hc (fun i hi => .inl (.inl hi)), .inr hv', fun i hi => .inl hi⟩
  rcases i with _ | i
  · simp at hv2 hl2
    subst hv2 hl2
    exact (hE.chg (Chg.of_below (M := fun _ => False) hb) (fun _ e => e.elim)).chg hc (fun i e he => h.nx (e ▸ he))
  · simp at hv2
set_option maxRecDepth 100000 in
set_option maxHeartbeats 4000000 in
theorem rcrash (h : RFol w X N vs vals sts last) (hl : sts.length ≤ 100000) (q : Int) (k : Nat) (hk : (q < 0 ∧ k = 0) ∨ (0 ≤ q ∧ q ≤ sts.length - 1 ∧ q = k) ∨ ((sts.length : Int) - 1 < q ∧ 0 ≤ q ∧ k = sts.length - 1)) (l : List Ent) (hst : sts[k]? = some l) :
    Calls Try.prog 39 #[.pointer (some ⟨X, 0, none⟩), .int .i64 q] w fun e w' => e = .returned (.tuple #[]) ∧ RMut w w' X N vs [l] last := by
  obtain ⟨i0, hi0, hz0, hz1, hz2⟩ := info_parts sts_info
  have hkl : k < sts.length := (List.getElem?_eq_some_iff.1 hst).1
  obtain ⟨v, hv⟩ : ∃ v, vals[k]? = some v := ⟨vals[k]'(by have := h.each.1; omega), List.getElem?_eq_getElem _⟩
  have hE := h.each.2 _ v l hv hst
  have HE := Lib.hid hE
  have H := Lib.hid h
  obtain ⟨g, cap, hvs, _, hg⟩ := h.own.form h.pos
  obtain ⟨n, hn⟩ : ∃ n, n = sts.length := ⟨_, rfl⟩
  have hO := h.own
  rw [hvs] at hO
  have ck : w.cell? ⟨g, k, none⟩ = some v := by
    rw [hO.cellAt k (by omega)]
    exact hv
  have hgX : g ≠ X := fun e => h.ne (by rw [hvs, e]; rfl)
  have c0 := h.c0
  have f0 := h.f0
  rw [hvs, ← hn] at c0
  rw [← hn] at hk hkl hl
  have Hvs : Hid (vs = .slice (some ⟨g, 0, none⟩) n cap) := by rw [hn]; exact hvs
  obtain ⟨A, c, rfl, _, _⟩ := hE
  obtain ⟨nl, hnl⟩ : ∃ nl, nl = l.length := ⟨_, rfl⟩
  rw [← hnl] at ck HE hv
  have Hv := Lib.hid hv
  have Hnl := Lib.hid hnl
  obtain ⟨z, hz⟩ : ∃ z, n = z + 1 := ⟨n - 1, by omega⟩
  have hzs : (n : Int) - 1 = (z : Int) := by omega
  have hzk : k ≤ z := by omega
  have hzl : z ≤ 100000 := by omega
  have Hz := Lib.hid hz
  clear hO hn h hst hvs hg hnl hv hz
  rcases hk with ⟨hq, rfl⟩ | ⟨hq0, hq1, rfl⟩ | ⟨hq1, hq0, hkz⟩
  · have d0 : decide (q < 0) = true := decide_eq_true hq
    have d1 : decide ((0 : Int) > (z : Int)) = false := decide_eq_false (by omega)
    clear hq
    go_enter Try.func39, Try.ntmps39
    go_wp2_with (at_builtin; (refine wpList_append_1 _ rfl _ _ 47 rfl 0 44 i0 (.slice none 0 0) 24 Try.underlying47 hi0 hz0 hz1 hz2 rfl (.slice none 0 0) 0 [] rfl (World.ownsRow_nil _ _ _ _) ⟨w.heap.size, 0, none⟩ 1 (.slice A nl c) rfl (cell_new1 _ _ _) rfl (by unfold maxLen; omega) (by omega) (Nat.zero_le _) ?_); (intro v1 w1 hown1 hb1 hg1 hv1); (have HO := Lib.hid hown1); (have HG := Lib.hid hg1); (have HV := Lib.hid hv1); (have HX := Lib.hid ((H.out.on ((Below.refl _ w).alloc (Nat.le_refl _) (.cells #[.slice A nl c] 44))).on (gbl HG.out))); (clear hown1 hb1 hg1 hv1 c0 f0); (have c0 := HX.out.c0); (have f0 := HX.out.f0); (obtain ⟨A1, k1, rfl, _, _, _⟩ := own_slice HO.out))
    go_end0
    exact ⟨rfl, rcrash_end H.out (v := .slice A nl c) (by rw [Hnl.out] at HE ⊢; exact HE.out) ((Below.refl _ w).alloc (Nat.le_refl _) _ |>.trans ((gbl HG.out).mono (by simp))) (HX.out) (by simpa using HO.out) (HV.out.imp (fun h1 => by rw [h1]; rfl) (fun h1 g hg => by rw [hg] at h1; injection h1 with h1; simp at h1; omega))⟩
  · have d0 : decide ((k : Int) < 0) = false := decide_eq_false (by omega)
    have d1 : decide ((k : Int) > (z : Int)) = false := decide_eq_false (by omega)
    clear hq0 hq1
    go_enter Try.func39, Try.ntmps39
    go_wp2_with (at_builtin; (refine wpList_append_1 _ rfl _ _ 47 rfl 0 44 i0 (.slice none 0 0) 24 Try.underlying47 hi0 hz0 hz1 hz2 rfl (.slice none 0 0) 0 [] rfl (World.ownsRow_nil _ _ _ _) ⟨w.heap.size, 0, none⟩ 1 (.slice A nl c) rfl (cell_new1 _ _ _) rfl (by unfold maxLen; omega) (by omega) (Nat.zero_le _) ?_); (intro v1 w1 hown1 hb1 hg1 hv1); (have HO := Lib.hid hown1); (have HG := Lib.hid hg1); (have HV := Lib.hid hv1); (have HX := Lib.hid ((H.out.on ((Below.refl _ w).alloc (Nat.le_refl _) (.cells #[.slice A nl c] 44))).on (gbl HG.out))); (clear hown1 hb1 hg1 hv1 c0 f0); (have c0 := HX.out.c0); (have f0 := HX.out.f0); (obtain ⟨A1, k1, rfl, _, _, _⟩ := own_slice HO.out))
    go_end0
    exact ⟨rfl, rcrash_end H.out (v := .slice A nl c) (by rw [Hnl.out] at HE ⊢; exact HE.out) ((Below.refl _ w).alloc (Nat.le_refl _) _ |>.trans ((gbl HG.out).mono (by simp))) (HX.out) (by simpa using HO.out) (HV.out.imp (fun h1 => by rw [h1]; rfl) (fun h1 g hg => by rw [hg] at h1; injection h1 with h1; simp at h1; omega))⟩
  · have d0 : decide (q < 0) = false := decide_eq_false (by omega)
    have d1 : decide (q > (z : Int)) = true := decide_eq_true (by omega)
    obtain rfl : k = z := by have := Hz.out; omega
    clear hq0 hq1 hkz
    go_enter Try.func39, Try.ntmps39
    go_wp2_with (at_builtin; (refine wpList_append_1 _ rfl _ _ 47 rfl 0 44 i0 (.slice none 0 0) 24 Try.underlying47 hi0 hz0 hz1 hz2 rfl (.slice none 0 0) 0 [] rfl (World.ownsRow_nil _ _ _ _) ⟨w.heap.size, 0, none⟩ 1 (.slice A nl c) rfl (cell_new1 _ _ _) rfl (by unfold maxLen; omega) (by omega) (Nat.zero_le _) ?_); (intro v1 w1 hown1 hb1 hg1 hv1); (have HO := Lib.hid hown1); (have HG := Lib.hid hg1); (have HV := Lib.hid hv1); (have HX := Lib.hid ((H.out.on ((Below.refl _ w).alloc (Nat.le_refl _) (.cells #[.slice A nl c] 44))).on (gbl HG.out))); (clear hown1 hb1 hg1 hv1 c0 f0); (have c0 := HX.out.c0); (have f0 := HX.out.f0); (obtain ⟨A1, k1, rfl, _, _, _⟩ := own_slice HO.out))
    go_end0
    exact ⟨rfl, rcrash_end H.out (v := .slice A nl c) (by rw [Hnl.out] at HE ⊢; exact HE.out) ((Below.refl _ w).alloc (Nat.le_refl _) _ |>.trans ((gbl HG.out).mono (by simp))) (HX.out) (by simpa using HO.out) (HV.out.imp (fun h1 => by rw [h1]; rfl) (fun h1 g hg => by rw [hg] at h1; injection h1 with h1; simp at h1; omega))⟩
end
end Go.Proofs.Ytpjmjcjikaekiaa
