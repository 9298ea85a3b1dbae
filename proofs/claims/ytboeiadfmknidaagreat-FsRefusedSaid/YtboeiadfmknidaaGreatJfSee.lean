
/-
  Layer 7: what tells and what is set: New, On, Size, ReadAt, Fuse.
-/
import Derived.Test.YtboeiadfmknidaaGreatJfDo
import Derived.Laws.EntriesVeiled
set_option linter.unusedVariables false
set_option linter.unusedSimpArgs false
namespace Go.Proofs.YtboeiadfmknidaaGreat
open Go.RowKit Go.Maps

section
variable {w w' : World} {A X B n u q T : Nat} {hv : Value} {K : List Nat} {g : Nat → Nat} {MX M R R' N : Nat → Prop} {MF : Nat → Nat → Prop} {s : FsP} {nm : ByteArray}
theorem FsAt.rise (h : FsAt w A X B n u hv K g MX MF M R s) (hR : ∀ i, R i → R' i) (hM : ∀ i, M i → ¬ R' i) (hl : ∀ i, R' i → i < w.heap.size) : FsAt w A X B n u hv K g MX MF M R' s :=
  { h with
    mr := hM
    rl := hl
    hold := fun ho => (h.hold ho).mono hR
    dir := h.dir.rise hR (fun i hi => hM i (h.mX i hi)) hl
    files := fun i hi => (h.files i hi).rise hR (fun j hj => hM j (h.mF i hi j hj)) hl }
theorem FsAt.own_hold (h : FsAt w A X B n u hv K g MX MF M R s) (hg : Chg (fun i => i = A) w w') {u' : Nat} {hv' : Value} {s' : FsP} (hc : FsC w' A X B s'.quota u' s'.steps (!s'.off) hv') (hd : s'.dir = s.dir) (hf : s'.file = s.file)
    (hR : ∀ i, R i → R' i) (hM : ∀ i, M i → ¬ R' i) (hl : ∀ i, R' i → i < w'.heap.size) (hh : s'.off = false → HoldAt w' R' hv' s'.steps s'.fuse) (hff : ∃ f cap, hv' = .func (.func f) #[] cap) : FsAt w' A X B n u' hv' K g MX MF M R' s' :=
  { h with
    mr := hM
    ml := fun i hi => Nat.lt_of_lt_of_le (h.ml i hi) hg.size
    rl := hl
    cells := hc
    hold := hh
    hvf := hff
    map := h.map.chg hg (fun e => h.ab e.symm)
    dir := by rw [hd]; exact (h.dir.chg hg (fun i e => by rw [e]; exact ⟨h.xA, h.mr A h.mA⟩)).rise hR (fun i hi => hM i (h.mX i hi)) hl
    files := fun i hi => by rw [hf]; exact ((h.files i hi).chg hg (fun j e => by rw [e]; exact ⟨h.fA i hi, h.mr A h.mA⟩)).rise hR (fun j hj => hM j (h.mF i hi j hj)) hl }
set_option maxRecDepth 100000 in
theorem kon (h : FsM w A u M R s) : Calls Tryz.prog 16 #[.pointer (some ⟨A, 0, none⟩)] w fun e w' => e = .returned (.bool (!s.off)) ∧ Below w.heap.size w w' := by
  obtain ⟨X, B, n, hv, K, g, MX, MF, ha, _⟩ := h
  have H := Lib.hid ha.cells
  have hS := ha.cells.c5
  clear ha
  generalize (!s.off) = b at *
  go_enter Tryz.func16, Tryz.ntmps16
  go_wp2_with (go_at_call 43; refine (kmade H.out).mono ?_; rintro e w' ⟨rfl, rfl⟩)
  go_ret
  exact ⟨rfl, Below.refl _ _⟩
set_option maxRecDepth 100000 in
theorem kon_same (h : FsM w A u M R s) : Calls Tryz.prog 16 #[.pointer (some ⟨A, 0, none⟩)] w fun e w' => e = .returned (.bool (!s.off)) ∧ w = w' := by
  obtain ⟨X, B, n, hv, K, g, MX, MF, ha, _⟩ := h
  have H := Lib.hid ha.cells
  have hS := ha.cells.c5
  clear ha
  generalize (!s.off) = b at *
  go_enter Tryz.func16, Tryz.ntmps16
  go_wp2_with (go_at_call 43; refine (kmade H.out).mono ?_; rintro e w' ⟨rfl, rfl⟩)
  go_ret
  exact ⟨rfl, rfl⟩
set_option maxRecDepth 100000 in
theorem ksteps (h : FsM w A u M R s) (ho : s.off = false) : Calls Tryz.prog 24 #[.pointer (some ⟨A, 0, none⟩)] w fun e w' => e = .returned (.int .i64 (s.steps : Int)) ∧ w = w' := by
  have hon := kon_same h
  rw [ho] at hon
  simp only [Bool.not_false] at hon
  obtain ⟨X, B, n, hv, K, g, MX, MF, ha, _⟩ := h
  have HO := Lib.hid hon
  have hS := ha.cells.c4
  clear ha hon
  go_enter Tryz.func24, Tryz.ntmps24
  go_wp2_with (go_at_call 16; refine HO.out.mono ?_; rintro e w' ⟨rfl, rfl⟩)
  go_ret
  exact ⟨rfl, rfl⟩
set_option maxRecDepth 100000 in
theorem klist_off (h : FsM w A u M R s) (ho : s.off = true) : Calls Tryz.prog 20 #[.pointer (some ⟨A, 0, none⟩)] w fun e w' => e = .returned (.slice none 0 0) ∧ w = w' := by
  have hon := kon_same h
  rw [ho] at hon
  simp only [Bool.not_true] at hon
  have HO := Lib.hid hon
  clear hon h
  go_enter Tryz.func20, Tryz.ntmps20
  go_wp2_with (go_at_call 16; refine HO.out.mono ?_; rintro e w' ⟨rfl, rfl⟩)
  go_ret
  exact ⟨rfl, rfl⟩
set_option maxRecDepth 100000 in
set_option maxHeartbeats 4000000 in
theorem ksize (h : FsM w A u M R s) (hf : FInv s q T) (hT : T ≤ 1000000) (ho : s.off = false) (hn : nm.size ≤ maxLen) :
    Calls Tryz.prog 17 #[.pointer (some ⟨A, 0, none⟩), .string nm] w fun e w' => e = .returned (.tuple #[.int .i64 ((if (nodeF s nm).1 = 0 then (s.file (nodeF s nm).2).bytes.length else 0 : Nat) : Int), .int .i64 ((nodeF s nm).1 : Int)]) ∧ Below w.heap.size w w' := by
  obtain ⟨X, B, n, hv, K, g, MX, MF, ha, hn1, hn2, hn3, hn4, hn5⟩ := h.kfacts hf
  have HF := Lib.hid (kfind ha hn4 ho hn)
  have Ha := Lib.hid ha
  by_cases h0 : (nodeF s nm).1 = 0
  · have hfin : findL s.dir.now nm = some (nodeF s nm).2 := by
      unfold nodeF at h0 ⊢
      split
      · rename_i h1; rw [if_pos h1] at h0; cases h0
      · rename_i h1
        rw [if_neg h1] at h0
        cases hf2 : findL s.dir.now nm with
        | none => rw [hf2] at h0; cases h0
        | some m => rfl
    rw [h0] at HF ⊢
    simp only [if_true] at HF ⊢
    generalize (nodeF s nm).2 = i at *
    have hiK : i ∈ K := hn4 _ (findL_mem hfin)
    have HZ : Hid (∀ w1, Below w.heap.size w w1 → Calls Tryz.prog 55 #[.pointer (some ⟨g i, 0, none⟩)] w1 fun e w' => e = .returned (.int .i64 ((s.file i).bytes.length : Int)) ∧ Below w1.heap.size w1 w') := fun w1 hb => fsize_m ((Ha.out.on hb).files i hiK) (Nat.le_trans (hn5 i hiK) (by omega)) _ rfl
    generalize (s.file i).bytes.length = L at *
    generalize g i = Fi at *
    clear h hf ha hn1 hn2 hn3 hn4 hn5 h0 hfin
    go_enter Tryz.func17, Tryz.ntmps17
    go_wp2_with (first
      | (go_at_call 54; refine HF.out.mono ?_; rintro e w1 ⟨rfl, hb1⟩; have HB1 := Lib.hid hb1; clear hb1)
      | (go_at_call 55; refine (HZ.out _ HB1.out).mono ?_; rintro e w2 ⟨rfl, hb2⟩; have HB2 := Lib.hid (HB1.out.trans (hb2.mono HB1.out.size)); clear hb2))
    go_ret2
    exact ⟨rfl, HB2.out⟩
  · rw [if_neg h0] at HF
    rw [if_neg h0]
    generalize (nodeF s nm).1 = cd at *
    have hcd2 : decide ((cd : Int) = 0) = false := decide_eq_false (by omega)
    clear h hf ha hn1 hn2 hn3 hn4 hn5
    go_enter Tryz.func17, Tryz.ntmps17
    go_wp2_with (first
      | (go_at_call 54; refine HF.out.mono ?_; rintro e w1 ⟨rfl, hb1⟩; have HB1 := Lib.hid hb1; clear hb1))
    go_ret2
    exact ⟨rfl, HB1.out⟩
set_option maxRecDepth 100000 in
set_option maxHeartbeats 4000000 in
/-- all of a file -/
theorem kread {i L : Nat} (h : FsM w A u M R s) (hf : FInv s q T) (hT : T ≤ 1000000) (ho : s.off = false) (hn : nm.size ≤ maxLen) (h0 : nodeF s nm = (0, i)) (hL : L = (s.file i).bytes.length) :
    Calls Tryz.prog 18 #[.pointer (some ⟨A, 0, none⟩), .string nm, .int .i64 0, .int .i64 (L : Int)] w fun e w' => ∃ r, e = .returned (.tuple #[r, .int .i64 0]) ∧ w'.ownsRow w.heap.size 5 1 r L (bvs (s.file i).bytes) ∧ Below w.heap.size w w' := by
  obtain ⟨X, B, n, hv, K, g, MX, MF, ha, hn1, hn2, hn3, hn4, hn5⟩ := h.kfacts hf
  have HF := Lib.hid (kfind ha hn4 ho hn)
  have Ha := Lib.hid ha
  rw [h0] at HF
  simp only [if_true] at HF
  have hfin : findL s.dir.now nm = some i := by
    unfold nodeF at h0
    split at h0
    · cases h0
    · rename_i h1
      cases hf2 : findL s.dir.now nm with
      | none => rw [hf2] at h0; cases h0
      | some m => rw [hf2] at h0; injection h0 with _ h0; rw [h0]
  have hiK : i ∈ K := hn4 _ (findL_mem hfin)
  have HZ : Hid (∀ w1, Below w.heap.size w w1 → Calls Tryz.prog 56 #[.pointer (some ⟨g i, 0, none⟩), .int .i64 0, .int .i64 (L : Int)] w1 fun e w' => ∃ r, e = .returned (.tuple #[r, .int .i64 0]) ∧ w'.ownsRow w.heap.size 5 1 r L (bvs (s.file i).bytes) ∧ Below w1.heap.size w1 w') := fun w1 hb => by
    have h9 := fread_m ((Ha.out.on hb).files i hiK) (Nat.le_trans (hn5 i hiK) (by omega)) 0 L (by omega)
    refine h9.mono ?_
    rintro e w' ⟨r, rfl, ho, hb'⟩
    rw [List.drop_zero, List.take_of_length_le (by omega)] at ho
    exact ⟨r, rfl, own_base ho hb.size, hb'⟩
  generalize g i = Fi at *
  generalize (s.file i).bytes = by_ at *
  clear h hf ha hn1 hn2 hn3 hn4 hn5 h0 hfin hL
  go_enter Tryz.func18, Tryz.ntmps18
  go_wp2_with (first
    | (go_at_call 54; refine HF.out.mono ?_; rintro e w1 ⟨rfl, hb1⟩; have HB1 := Lib.hid hb1; clear hb1)
    | (go_at_call 56; refine (HZ.out _ HB1.out).mono ?_; rintro e w2 ⟨r, rfl, ho2, hb2⟩; have HO2 := Lib.hid ho2; have HB2 := Lib.hid (HB1.out.trans (hb2.mono HB1.out.size)); clear hb2 ho2))
  go_ret2
  exact ⟨_, rfl, HO2.out, HB2.out⟩
theorem box2 (w : World) (a b : Value) (t t' : TypeId) : Below w.heap.size w ((w.alloc (.cells #[a] t)).alloc (.cells #[b] t')) := ((Below.refl _ _).alloc (Nat.le_refl _) _).alloc (by simp) _
set_option maxRecDepth 100000 in
set_option maxHeartbeats 4000000 in
/-- a fuse -/
theorem kfuseset {z : Int} (hz : z < 9223372036854775808) (h : FsM w A u M R s) :
    Calls Tryz.prog 25 #[.pointer (some ⟨A, 0, none⟩), .int .i64 z] w fun e w' => e = .returned (.int .i64 ((fuseF s z).1 : Int)) ∧ FsMut w w' A u M R (fuseF s z).2 := by
  have HM := Lib.hid h
  have hlA := h.ltA
  obtain ⟨X, B, n, hv, K, g, MX, MF, ha, hn⟩ := h
  obtain ⟨hfn, hcap, rfl⟩ := ha.hvf
  obtain ⟨W, hW⟩ : ∃ W, W = w.alloc (.cells #[.int .i64 z] 3) := ⟨_, rfl⟩
  have hb : Below w.heap.size w W := by rw [hW]; exact (Below.refl _ _).alloc (Nat.le_refl _) _
  have c0 : W.cell? ⟨w.heap.size, 0, none⟩ = some (.int .i64 z) := by rw [hW]; exact box_new _ _ _ _ rfl
  have hsz : W.heap.size = w.heap.size + 1 := by rw [hW]; simp
  have HB := Lib.hid hb
  have Ha := Lib.hid (ha.on hb)
  have Hn := Lib.hid hn
  have hrd := kready (ha.on hb).cells
  cases ho : s.off
  case true =>
    have hr : fuseF s z = (20, s) := by unfold fuseF; rw [if_pos ho]
    rw [hr]
    rw [ho] at hrd
    simp only [Bool.not_true] at hrd
    have HR := Lib.hid hrd
    clear hrd ha hn hb c0 hr ho
    go_enter Tryz.func25, Tryz.ntmps25
    go_wp2_with fail
    rw [← hW]
    clear hW
    refine HR.out.mono ?_
    rintro e w' ⟨rfl, rfl⟩
    go_wp2_with fail
    go_ret
    exact ⟨rfl, FsMut.of_below HM.out HB.out⟩
  case false =>
    rw [ho] at hrd
    simp only [Bool.not_false, if_true] at hrd
    have HR := Lib.hid hrd
    have HO := Lib.hid ho
    by_cases hneg : z < 0
    · have hr : fuseF s z = (0, { s with fuse := none }) := by unfold fuseF; rw [if_neg (by simp [ho]), if_pos hneg]
      rw [hr]
      have hd : decide (z < 0) = true := decide_eq_true hneg
      have hf6 := Ha.out.cells.f6
      have hc6 := Ha.out.cells.c6
      clear hrd ha hn hb hr ho
      go_enter Tryz.func25, Tryz.ntmps25
      go_wp2_with fail
      rw [← hW]
      clear hW
      refine HR.out.mono ?_
      rintro e w' ⟨rfl, rfl⟩
      go_wp2_with fail
      go_ret
      refine ⟨rfl, M, R, ⟨X, B, n, _, K, g, MX, MF, Ha.out.cell_set 6 _ (Ha.out.cells.set6 _) rfl rfl (fun _ => rfl) ⟨_, _, rfl⟩, Hn.out⟩, ((Chg.of_below (M := M) HB.out)).setCell Ha.out.mA _, fun _ => .inl, fun _ => .inl⟩
    · have hr : fuseF s z = (0, { s with fuse := some z.toNat }) := by unfold fuseF; rw [if_neg (by simp [ho]), if_neg hneg]
      rw [hr]
      have hd : decide (z < 0) = false := decide_eq_false hneg
      have hf6 := Ha.out.cells.f6
      have hc6 := Ha.out.cells.c6
      have hc4 := Ha.out.cells.c4
      have Hsz := Lib.hid hsz
      clear hrd ha hn hb hr ho
      go_enter Tryz.func25, Tryz.ntmps25
      go_wp2_with fail
      rw [← hW]
      clear hW
      refine HR.out.mono ?_
      rintro e w' ⟨rfl, rfl⟩
      go_wp2_with fail
      go_ret
      have hsW := Hsz.out
      have hg9 : Chg (fun i => i = A) W (World.alloc (W.setCell ⟨A, 6, none⟩ (.func (.func 61) #[] #[.pointer (some ⟨w.heap.size + 1, 0, none⟩), .pointer (some ⟨w.heap.size, 0, none⟩)])) (.cells #[.int .i64 (s.steps : Int)] 3)) := (chg_set W A 6 _).alloc _
      have hc9 := (Ha.out.cells.set6 (.func (.func 61) #[] #[.pointer (some ⟨w.heap.size + 1, 0, none⟩), .pointer (some ⟨w.heap.size, 0, none⟩)])).on_ ((Below.refl _ _).alloc (Nat.le_refl _) (.cells #[.int .i64 (s.steps : Int)] 3))
      refine ⟨rfl, M, fun i => R i ∨ i = w.heap.size ∨ i = w.heap.size + 1, ⟨X, B, n, _, K, g, MX, MF, Ha.out.own_hold hg9 (s' := { s with fuse := some z.toNat }) (by simpa using hc9) rfl rfl (fun i => .inl) ?_ ?_ (fun _ => ?_) ⟨_, _, rfl⟩, Hn.out⟩, ((Chg.of_below (M := M) HB.out)).trans (hg9.mono (fun i e => by rw [e]; exact Ha.out.mA)) (fun i e => .inl e), fun _ => .inl, ?_⟩
      · intro i hi e
        have := HM.out.ml i hi
        rcases e with e | e | e
        · exact Ha.out.mr i hi e
        · omega
        · omega
      · intro i e
        have e9 : (World.alloc (W.setCell ⟨A, 6, none⟩ (.func (.func 61) #[] #[.pointer (some ⟨w.heap.size + 1, 0, none⟩), .pointer (some ⟨w.heap.size, 0, none⟩)])) (.cells #[.int .i64 (s.steps : Int)] 3)).heap.size = W.heap.size + 1 := by simp
        rw [e9]
        rcases e with e | e | e
        · have := Ha.out.rl i e; omega
        · omega
        · omega
      · obtain ⟨l, hl⟩ : ∃ l : Nat, z = l := ⟨z.toNat, by omega⟩
        subst hl
        refine ⟨w.heap.size + 1, w.heap.size, s.steps, l, rfl, .inr (.inr rfl), .inr (.inl rfl), ?_, ?_, by simp, Nat.le_refl _, by omega⟩
        · exact box_new _ _ _ _ (by simp [hsW])
        · refine cell_al ?_ _
          rw [World.cell?_setCell_other _ _ _ _ (by intro e; injection e with e1 e2; omega)]
          exact c0
      · intro i e
        rcases e with e | e | e
        · exact .inl e
        · exact .inr (by omega)
        · exact .inr (by omega)
end
end Go.Proofs.YtboeiadfmknidaaGreat

/-
  Layer 7: New, List.
-/
set_option linter.unusedVariables false
set_option linter.unusedSimpArgs false
namespace Go.Proofs.YtboeiadfmknidaaGreat
open Go.RowKit Go.Maps

theorem string_info7 : (Tryz.prog.info? 9).map (fun i => (i.zero, i.size, i.bytes)) = some (some (.string .empty), 1, 16) := by kernel_rfl
/-- the names of a folder -/
def namesL (l : List Ent) : List ByteArray := l.map (·.1)
theorem namesL_take {l : List Ent} {j : Nat} {x : Ent} (hx : l[j]? = some x) : namesL (l.take (j + 1)) = namesL (l.take j) ++ [x.1] := by
  unfold namesL
  rw [take_next6 hx, List.map_append]
  rfl
theorem sos_of_own {w : World} {base n : Nat} {v : Value} {l : List ByteArray} (h : w.ownsRow base 9 1 v n (svs l)) (hn : n = l.length) : SsR w (fun i => base ≤ i ∧ i < w.heap.size) v l := by
  obtain ⟨A, c, rfl, h1, h2, _⟩ := own_slice h
  subst hn
  exact ⟨A, c, rfl, h1, h2, rdR_of_own h⟩
section
variable {w w' : World} {A X B n u q T : Nat} {hv : Value} {K : List Nat} {g : Nat → Nat} {MX M R R' N : Nat → Prop} {MF : Nat → Nat → Prop} {s : FsP} {nm : ByteArray}
set_option maxRecDepth 100000 in
set_option maxHeartbeats 4000000 in
theorem kall (h : FsM w A u M R s) :
    Calls Tryz.prog 53 #[.pointer (some ⟨A, 0, none⟩)] w fun e w' => ∃ v, e = .returned v ∧ w'.ownsRow w.heap.size 9 1 v (namesL s.dir.now).length (svs (namesL s.dir.now)) ∧ Below w.heap.size w w' := by
  obtain ⟨i0, hi0, hz0, hz1, hz2⟩ := info_parts string_info7
  obtain ⟨X, B, n, hv, K, g, MX, MF, ha, hn⟩ := h
  have H := Lib.hid ha
  have HL := Lib.hid (hlist_m ha.dir)
  have hc0 := ha.cells.c0
  have hlen0 : s.dir.now.length ≤ 100000 := ha.dir.ok.now_length
  obtain ⟨es, hes⟩ : ∃ es, es = s.dir.now := ⟨_, rfl⟩
  rw [← hes] at HL hlen0 ⊢
  clear ha hn hes
  go_enter Tryz.func53, Tryz.ntmps53
  go_wp2_with fail
  refine HL.out.mono ?_
  rintro e w1 ⟨v, rfl, hev, hb1⟩
  have HB1 := Lib.hid hb1
  have HE := Lib.hid hev
  obtain ⟨Av, cv, rfl, hcv, hcm, _⟩ := hev
  obtain ⟨m, hm⟩ : ∃ m, m = es.length := ⟨_, rfl⟩
  rw [← hm] at hcv hlen0 ⊢
  have Hm := Lib.hid hm
  clear hb1 hm hc0
  go_wp2_with fail
  go_loopw [3, 12] (fun o i wr => ∃ j : Nat, j ≤ m ∧ i = .int .i64 j ∧ wr.ownsRow w1.heap.size 9 1 o j (svs (namesL (es.take j))) ∧ Below w1.heap.size w1 wr) (fun _ i _ => m - (intOf i).toNat)
  case atStart => exact ⟨0, by omega, rfl, by simpa [namesL, svs] using World.ownsRow_nil _ _ _ _, Below.refl _ _⟩
  case round =>
    obtain ⟨j, hj, rfl, hown, hb⟩ := hrel
    have HB := Lib.hid hb
    by_cases hjl : j < m
    · obtain ⟨x, hx⟩ : ∃ x, es[j]? = some x := ⟨es[j]'(by have := Hm.out; omega), List.getElem?_eq_getElem _⟩
      obtain ⟨b1, o1, rfl, hb1, e0, e1⟩ := (HE.out.on HB.out).at_ rfl hx
      have HX := Lib.hid hx
      obtain ⟨Ao, co, rfl, _, _, _⟩ := own_slice hown
      have HO := Lib.hid hown
      obtain ⟨xn, xi⟩ := x
      simp only at e0 e1
      have HJ := Lib.hid (namesL_take HX.out)
      have hwb : w1.heap.size ≤ wr.heap.size := HB.out.size
      clear hx hown hb
      go_wp2_with (at_builtin; (refine wpList_append_1 _ rfl _ _ 46 rfl w1.heap.size 9 i0 (.string .empty) 16 Tryz.underlying46 hi0 hz0 hz1 hz2 rfl (.slice Ao j co) j (svs (namesL (es.take j))) rfl ((HO.out.alloc _).alloc _) ⟨wr.heap.size + 1, 0, none⟩ 1 (.string xn) rfl (box_new _ _ _ _ (by simp)) rfl (by unfold maxLen; omega) (by omega) (by simp; omega) ?_); intro v3 w3 hown3 hb3 _ _; (have HO3 := Lib.hid hown3); (have HB3 := Lib.hid hb3); clear hown3 hb3)
      have hfin : w3.ownsRow w1.heap.size 9 1 v3 (j + 1) (svs (namesL (es.take (j + 1)))) := by
        rw [HJ.out, svs_append]
        exact HO3.out
      have hbf : Below w1.heap.size w1 w3 := ((HB.out.alloc HB.out.size _).alloc (by simp; omega) _).trans HB3.out
      have HF := Lib.hid hfin
      have HBF := Lib.hid hbf
      clear hfin hbf
      go_roundw
      case rel => exact ⟨j + 1, by omega, by go_num, HF.out, HBF.out⟩
      case measure => simp [intOf]; omega
    · obtain rfl : j = m := by omega
      have HO := Lib.hid hown
      clear hown hb
      go_wp2_with fail
      go_ret
      have he : es.take j = es := List.take_of_length_le (by have := Hm.out; omega)
      have h1 := HO.out
      rw [he] at h1
      have hl9 : (namesL es).length = j := by rw [Hm.out]; simp [namesL]
      rw [hl9]
      exact ⟨_, rfl, own_base h1 HB1.out.size, HB1.out.trans (HB.out.mono HB1.out.size)⟩
set_option maxRecDepth 100000 in
set_option maxHeartbeats 4000000 in
theorem klist (h : FsM w A u M R s) (ho : s.off = false) :
    Calls Tryz.prog 20 #[.pointer (some ⟨A, 0, none⟩)] w fun e w' => ∃ v, e = .returned v ∧ w'.ownsRow w.heap.size 9 1 v (namesL s.dir.now).length (svs (namesL s.dir.now)) ∧ Below w.heap.size w w' := by
  have hon := kon_same h
  rw [ho] at hon
  simp only [Bool.not_false] at hon
  have HON := Lib.hid hon
  have HA := Lib.hid (kall h)
  clear hon ho h
  generalize (namesL s.dir.now) = ns at *
  go_enter Tryz.func20, Tryz.ntmps20
  go_wp2_with (first
    | (go_at_call 16; refine HON.out.mono ?_; rintro e w' ⟨rfl, rfl⟩)
    | (go_at_call 53; refine HA.out.mono ?_; rintro e w' ⟨v, rfl, ho9, hb9⟩; have HO9 := Lib.hid ho9; have HB9 := Lib.hid hb9; clear ho9 hb9))
  go_ret
  exact ⟨_, rfl, HO9.out, HB9.out⟩
set_option maxRecDepth 100000 in
theorem kmayq (w : World) (z : Int) : Calls Tryz.prog 26 #[.int .i64 z] w fun e w' => e = .returned (.bool (decide (0 ≤ z ∧ z ≤ 1073741824))) ∧ w = w' := by
  by_cases h1 : 0 ≤ z
  · by_cases h2 : z ≤ 1073741824
    · have d1 : decide (z ≥ 0) = true := decide_eq_true h1
      have d2 : decide (z ≤ 1073741824) = true := decide_eq_true h2
      go_enter Tryz.func26, Tryz.ntmps26
      go_wp2
      go_ret
      exact ⟨by simp [h1, h2], rfl⟩
    · have d1 : decide (z ≥ 0) = true := decide_eq_true h1
      have d2 : decide (z ≤ 1073741824) = false := decide_eq_false h2
      go_enter Tryz.func26, Tryz.ntmps26
      go_wp2
      go_ret
      exact ⟨by simp [h1, h2], rfl⟩
  · have d1 : decide (z ≥ 0) = false := decide_eq_false (by omega)
    go_enter Tryz.func26, Tryz.ntmps26
    go_wp2
    go_ret
    exact ⟨by simp [h1], rfl⟩
set_option maxRecDepth 100000 in
set_option maxHeartbeats 4000000 in
theorem knew (w : World) (qt : Nat) (hq : qt ≤ 1073741824) :
    Calls Tryz.prog 6 #[.int .i64 (qt : Int)] w fun e w' => ∃ A M, e = .returned (.tuple #[.pointer (some ⟨A, 0, none⟩), .int .i64 0]) ∧ FsM w' A 0 M (fun _ => False) (FsP.new qt) ∧ Below w.heap.size w w' ∧ ∀ i, M i → w.heap.size ≤ i := by
  have HQ := Lib.hid (kmayq w (qt : Int))
  have hd : decide (0 ≤ (qt : Int) ∧ (qt : Int) ≤ 1073741824) = true := decide_eq_true (by omega)
  rw [hd] at HQ
  clear hd
  go_enter Tryz.func6, Tryz.ntmps6
  go_wp2_with (go_at_call 26; refine HQ.out.mono ?_; rintro e w' ⟨rfl, rfl⟩)
  refine (hnew w).mono ?_
  rintro e w1 ⟨X, MX, rfl, hx, hb1, hMX⟩
  have HX := Lib.hid hx
  have HB1 := Lib.hid hb1
  have HMX := Lib.hid hMX
  have hmk := hmkF w1
  clear hx hb1 hMX
  go_wp2_with fail
  go_ret2
  have hb2 : Below w1.heap.size w1 (w1.alloc (.map #[] 0)) := (Below.refl _ _).alloc (Nat.le_refl _) _
  have hsz2 : (w1.alloc (.map #[] 0)).heap.size = w1.heap.size + 1 := by simp
  have hm0 := MapF.new w1 (fun _ => 0)
  have hx2 := HX.out.on hb2
  have hxl := HX.out.2.2.1
  generalize w1.alloc (.map #[] 0) = w2 at *
  have hb3 : Below w2.heap.size w2 (w2.alloc (.cells #[.pointer (some ⟨X, 0, none⟩), .map (some w1.heap.size), .int .i64 (qt : Int), .int .i64 0, .int .i64 0, .bool true, .func (.func 28) #[] #[]] 60)) := (Below.refl _ _).alloc (Nat.le_refl _) _
  have hsz3 : (w2.alloc (.cells #[.pointer (some ⟨X, 0, none⟩), .map (some w1.heap.size), .int .i64 (qt : Int), .int .i64 0, .int .i64 0, .bool true, .func (.func 28) #[] #[]] 60)).heap.size = w2.heap.size + 1 := by simp
  have hc := FsC.new w2 X w1.heap.size qt 0 0 true (.func (.func 28) #[] #[]) 60
  have hs1 := HB1.out.size
  rw [← hsz2]
  refine ⟨w2.heap.size, fun i => MX i ∨ i = w1.heap.size ∨ i = w2.heap.size, rfl, ⟨X, w1.heap.size, 0, .func (.func 28) #[] #[], [], fun _ => 0, MX, fun _ _ => False, ?_, Nat.zero_le _, (fun i hi => absurd hi (by simp)), fun i hi => ?_⟩, (HB1.out.trans (hb2.mono hs1)).trans (hb3.mono (by omega)), ?_⟩
  · refine ⟨fun i _ e => e, ?_, fun i e => e.elim, hc, fun _ => rfl, ⟨_, _, rfl⟩, hm0.on hb3, (fun i hi => absurd hi (by simp)), hx2.on hb3, (fun i hi => absurd hi (by simp)), .inr (.inr rfl), .inr (.inl rfl), fun i => .inl, (fun i hi => absurd hi (by simp)), fun e => ?_, fun e => ?_, (fun i hi => absurd hi (by simp)), (fun i hi => absurd hi (by simp)), (fun i hi => absurd hi (by simp)), (fun i hi => absurd hi (by simp))⟩
    · rintro i (e | e | e)
      · have := hxl i e; omega
      · omega
      · omega
    · have := hxl _ e; omega
    · have := hxl _ e; omega
  · exfalso
    have h1 := (mem_live (s := PSt.new) (Nat.le_refl _)).1 hi
    rcases h1 with ⟨y, hy, _⟩ | h1
    · simp [PSt.new] at hy
    · simp [PSt.new] at h1; omega
  · rintro i (e | e | e)
    · exact HMX.out i e
    · omega
    · omega
end
end Go.Proofs.YtboeiadfmknidaaGreat

/-
  Layer 7: picks: whether one is below 0, and the next one.
-/
set_option linter.unusedVariables false
set_option linter.unusedSimpArgs false
namespace Go.Proofs.YtboeiadfmknidaaGreat
open Go.RowKit Go.Maps

theorem elInts : Tryz.prog.underlying 24 = some (.slice (Tryz.prog.elem 24)) := by kernel_rfl
theorem run_cut_1i (A : Option Addr) (n c k : Nat) (hkn : k ≤ n) (w : World) :
    (Instr.sliceAt 24 (.slice A n c) (some (.int .i64 (k : Int))) none none).run Tryz.prog w = .ok (.slice (if c = k then A else A.map (·.add k)) (n - k) (c - k)) w := by
  rw [run_sliceAt_slice _ 24 _ _ _ _ elInts, run_slice_l _ 24 A n c elInts .i64 k (by omega) (by omega)]
  have : (sizeOf (Tryz.prog.elem 24)).run Tryz.prog w = .ok 1 w := by kernel_rfl
  rw [this]
  simp [Result.andThen, sliced]
/-- The value v is a slice that reads as the numbers l, out of a block of N. -/
def IsR (w : World) (N : Nat → Prop) (v : Value) (l : List Int) : Prop := ∃ A c, v = .slice A l.length c ∧ l.length ≤ c ∧ l.length ≤ 9223372036854775807 ∧ RdR w N A (ivs l)
section
variable {w w' : World} {N N' M : Nat → Prop} {v : Value} {l : List Int}
theorem IsR.chg (h : IsR w N v l) (hc : Chg M w w') (hM : ∀ i, M i → ¬ N i) : IsR w' N v l := by
  obtain ⟨A, c, h1, h2, h3, h4⟩ := h
  exact ⟨A, c, h1, h2, h3, h4.chg hc hM⟩
theorem IsR.on (h : IsR w N v l) (hb : Below w.heap.size w w') : IsR w' N v l := h.chg (Chg.of_below (M := fun _ => False) hb) (fun _ e => e.elim)
theorem IsR.mono (h : IsR w N v l) (hN : ∀ i, N i → N' i) : IsR w N' v l := by
  obtain ⟨A, c, h1, h2, h3, h4⟩ := h
  exact ⟨A, c, h1, h2, h3, h4.mono hN⟩
theorem IsR.at_ (h : IsR w N v l) {A : Option Addr} {n c : Nat} (hv : v = .slice A n c) {j : Nat} {x : Int} (hx : l[j]? = some x) :
    ∃ b o, A = some ⟨b, o, none⟩ ∧ N b ∧ w.cell? ⟨b, o + j, none⟩ = some (.int .i64 x) := by
  obtain ⟨A', c', e, _, _, h2⟩ := h
  rw [hv] at e
  injection e with e _ _
  subst e
  have g1 : (ivs l)[j]? = some (.int .i64 x) := by unfold ivs; rw [List.getElem?_map, hx]; rfl
  obtain ⟨b, o, e2, hb, hc⟩ := h2 (by intro e; rw [e] at g1; simp at g1)
  exact ⟨b, o, e2, hb, hc _ _ g1⟩
set_option maxRecDepth 100000 in
theorem kneg (w : World) (z : Int) : Calls Tryz.prog 45 #[.int .i64 z] w fun e w' => e = .returned (.bool (decide (z < 0))) ∧ w = w' := by
  go_enter Tryz.func45, Tryz.ntmps45
  go_wp2
  go_ret
  exact ⟨by simp, rfl⟩
theorem any_take_next {l : List Int} {j : Nat} {x : Int} (hx : l[j]? = some x) : (l.take (j + 1)).any (· < 0) = ((l.take j).any (· < 0) || decide (x < 0)) := by
  rw [take_next6 hx, List.any_append]
  simp
theorem any_of_mem {l : List Int} {x : Int} (hx : x ∈ l) (h : x < 0) : l.any (· < 0) = true := List.any_eq_true.2 ⟨x, hx, by simpa using h⟩
set_option maxRecDepth 100000 in
set_option maxHeartbeats 4000000 in
theorem kindexf (h : IsR w N v l) : Calls Tryz.prog 77 #[v, .func (.func 45) #[] #[]] w fun e w' => ∃ r : Int, e = .returned (.int .i64 r) ∧ decide (r ≥ 0) = l.any (· < 0) ∧ w = w' := by
  have HV := Lib.hid h
  obtain ⟨Ab, c, rfl, hc, hm, _⟩ := h
  obtain ⟨n, hn⟩ : ∃ n, n = l.length := ⟨_, rfl⟩
  rw [← hn] at hc HV hm ⊢
  have Hn := Lib.hid hn
  have eg : ∀ args w', (callFunc 45 args).run Tryz.prog w' = .ok (.enter 45 args) w' := fun args w' => enters_of Tryz.func45 (by kernel_rfl) rfl args w'
  clear hn
  go_enter Tryz.func77, Tryz.ntmps77
  go_wp2_with fail
  go_loopw [5, 8] (fun _ i wr => ∃ k : Nat, k ≤ n ∧ i = .int .i64 k ∧ (l.take k).any (· < 0) = false ∧ w = wr) (fun _ i _ => n - (intOf i).toNat)
  case atStart => exact ⟨0, by omega, rfl, by simp, rfl⟩
  case round =>
    obtain ⟨k, hk, rfl, hany, rfl⟩ := hrel
    have HA := Lib.hid hany
    clear hany
    by_cases hkn : k < n
    · have hdk : decide ((k : Int) < (n : Int)) = true := decide_eq_true (by omega)
      obtain ⟨x, hx⟩ : ∃ x, l[k]? = some x := ⟨l[k]'(by have := Hn.out; omega), List.getElem?_eq_getElem _⟩
      obtain ⟨b1, o1, rfl, _, e0⟩ := HV.out.at_ rfl hx
      have hdk3 : (k : Int) < (n : Int) := by omega
      have HX := Lib.hid hx
      have HN := Lib.hid (kneg w x)
      clear hx
      cases hd : decide (x < 0)
      · rw [hd] at HN
        have HD := Lib.hid hd
        clear hd
        go_wp2_with fail
        refine HN.out.mono ?_
        rintro e w' ⟨rfl, rfl⟩
        go_wp2_with fail
        go_roundw
        case rel => exact ⟨k + 1, by omega, by go_num, by rw [any_take_next HX.out, HA.out, HD.out]; rfl, by first | trivial | rfl⟩
        case measure => simp [intOf]; omega
      · rw [hd] at HN
        have HD := Lib.hid hd
        clear hd
        go_wp2_with fail
        refine HN.out.mono ?_
        rintro e w' ⟨rfl, rfl⟩
        go_wp2_with fail
        go_ret
        exact ⟨_, rfl, by rw [any_of_mem (List.mem_of_getElem? HX.out) (by simpa using HD.out)]; simp, rfl⟩
    · have hdk : decide ((k : Int) < (n : Int)) = false := decide_eq_false (by omega)
      have Hf : Hid (l.any (· < 0) = false) := by
        have h1 := HA.out
        rw [List.take_of_length_le (by have := Hn.out; omega)] at h1
        exact h1
      go_wp2_with fail
      go_ret
      exact ⟨_, rfl, by rw [Hf.out]; rfl, rfl⟩
set_option maxRecDepth 100000 in
theorem kcontains (h : IsR w N v l) : Calls Tryz.prog 44 #[v, .func (.func 45) #[] #[]] w fun e w' => e = .returned (.bool (l.any (· < 0))) ∧ w = w' := by
  have H := Lib.hid (kindexf h)
  clear h
  generalize l.any (· < 0) = b at *
  go_enter Tryz.func44, Tryz.ntmps44
  go_wp2_with fail
  refine H.out.mono ?_
  rintro e w' ⟨r, rfl, hr, rfl⟩
  go_wp2_with fail
  go_ret
  exact ⟨by simp, rfl⟩
set_option maxRecDepth 100000 in
set_option maxHeartbeats 4000000 in
/-- the next pick -/
theorem kpick {p lo : Nat} (h : IsR w N v l) (cp : w.cell? ⟨p, 0, none⟩ = some v) (fp : w.frozen? ⟨p, 0, none⟩ = false) (hN : ¬ N p) (hlo : lo ≤ 1000000000) (hpos : l.any (· < 0) = false) :
    Calls Tryz.prog 46 #[.int .i64 (lo : Int), .pointer (some ⟨p, 0, none⟩)] w fun e w' => ∃ v', e = .returned (.int .i64 (((l.head?.getD 0).toNat % (lo + 1) : Nat) : Int)) ∧ IsR w' N v' (l.drop 1) ∧ w'.cell? ⟨p, 0, none⟩ = some v' ∧ w'.frozen? ⟨p, 0, none⟩ = false ∧ Chg (fun i => i = p) w w' := by
  rcases l with _ | ⟨x, r⟩
  · obtain ⟨Ab, c, rfl, hc, hm, hr⟩ := h
    have H := Lib.hid (show IsR w N (.slice Ab 0 c) [] from ⟨Ab, c, rfl, hc, hm, hr⟩)
    have HC := Lib.hid cp
    have HF := Lib.hid fp
    clear hr
    go_enter Tryz.func46, Tryz.ntmps46
    go_wp2
    go_ret
    exact ⟨.slice Ab 0 c, by simp, H.out, HC.out, HF.out, Chg.refl⟩
  · have hx0 : 0 ≤ x := by
      simp only [List.any_cons, Bool.or_eq_false_iff, decide_eq_false_iff_not] at hpos
      omega
    obtain ⟨Ab, c, rfl, hc, hm, hr⟩ := h
    have H : IsR w N (.slice Ab (x :: r).length c) (x :: r) := ⟨Ab, c, rfl, hc, hm, hr⟩
    obtain ⟨b1, o1, rfl, hb1, e0⟩ := H.at_ rfl (j := 0) (x := x) rfl
    obtain ⟨n, hn⟩ : ∃ n, n = r.length := ⟨_, rfl⟩
    have hn1 : (x :: r).length = n + 1 := by simp [hn]
    rw [hn1] at cp H hc
    obtain ⟨A', hA'⟩ : ∃ A', A' = (if c = 1 then some ⟨b1, o1, none⟩ else (some ⟨b1, o1, none⟩ : Option Addr).map (·.add 1)) := ⟨_, rfl⟩
    obtain ⟨c', hc'⟩ : ∃ c', c' = c - 1 := ⟨_, rfl⟩
    have hcut : ∀ w, (Instr.sliceAt 24 (.slice (some ⟨b1, o1, none⟩) (n + 1) c) (some (.int .i64 1)) none none).run Tryz.prog w = .ok (.slice A' n c') w := fun w => by
      have h9 := run_cut_1i (some ⟨b1, o1, none⟩) (n + 1) c 1 (by omega) w
      rw [hA', hc']
      simpa using h9
    have hR : RdR w N A' (ivs r) := fun hx => by
      have hc2 : ¬ c = 1 := fun e => by
        have : r = [] := by have := hc; rw [e] at this; exact List.eq_nil_of_length_eq_zero (by omega)
        rw [this] at hx
        simp [ivs] at hx
      obtain ⟨b2, o2, e2, hb2, hc3⟩ := hr (by simp [ivs])
      injection e2 with e2
      injection e2 with e3 e4
      subst e3 e4
      refine ⟨b1, o1 + 1, by rw [hA', if_neg hc2]; rfl, hb1, fun j u hu => ?_⟩
      rw [show o1 + 1 + j = o1 + (j + 1) by omega]
      exact hc3 (j + 1) u (by unfold ivs at hu ⊢; simpa using hu)
    have HR : Hid (IsR w N (.slice A' n c') r) := ⟨A', c', by rw [hn], by omega, by rw [hn1] at hm; omega, hR⟩
    obtain ⟨lo1, hlo1⟩ : ∃ lo1, lo1 = lo + 1 := ⟨_, rfl⟩
    have hw1 : IntKind.i64.wrap ((lo : Int) + 1) = (lo1 : Int) := by rw [IntWalk.i64_in _ (by omega), hlo1]; push_cast; rfl
    obtain ⟨y, hy⟩ : ∃ y : Nat, x = y := ⟨x.toNat, by omega⟩
    subst hy
    obtain ⟨r0, hr0⟩ : ∃ r0, r0 = y % lo1 := ⟨_, rfl⟩
    have hm1 : (y : Int).tmod (lo1 : Int) = (r0 : Int) := by rw [Int.tmod_eq_emod_of_nonneg (by omega), hr0]; push_cast; rfl
    have hm2 : (y : Int) % (lo1 : Int) = (r0 : Int) := by rw [hr0]; push_cast; rfl
    have hans : ((((y : Int) :: r).head?.getD 0).toNat % (lo + 1) : Nat) = r0 := by rw [hr0, hlo1]; simp
    have hne : decide ((lo1 : Int) = 0) = false := decide_eq_false (by omega)
    have hne2 : ¬ (lo1 : Int) = 0 := by omega
    have hlen : decide (((n + 1 : Nat) : Int) = 0) = false := decide_eq_false (by omega)
    have e0' : w.cell? ⟨b1, o1, none⟩ = some (.int .i64 (y : Int)) := by simpa using e0
    rw [hans]
    have HN : Hid (¬ N p) := hN
    clear hr H hA' hc' hR hr0 hlo1 hans e0 hn1 hn hx0
    go_enter Tryz.func46, Tryz.ntmps46
    go_wp2_with fail
    go_ret
    exact ⟨.slice A' n c', rfl, HR.out.chg (chg_set w p 0 _) (fun i e => by rw [e]; exact HN.out), World.cell?_setCell_same _ _ _ cp, by rw [World.frozen?_setCell]; exact fp, chg_set w p 0 _⟩
end
end Go.Proofs.YtboeiadfmknidaaGreat

/-
  Layer 7: Crash.
-/
set_option linter.unusedVariables false
set_option linter.unusedSimpArgs false
namespace Go.Proofs.YtboeiadfmknidaaGreat
open Go.RowKit Go.Maps

theorem live_crashD (s : FsP) (picks : List Int) : (crashD s picks).live = inosL (crashD s picks).safe := by
  unfold PSt.live liveP crashD PSt.settle
  simp
theorem bytesN_names {g : Nat → FSt} : ∀ {l : List Ent}, SortE l → bytesN g l (namesL l) = usedL g l := fun {l} hs => by
  unfold bytesN usedL namesL
  rw [List.map_map]
  congr 1
  refine List.map_congr_left (fun x hx => ?_)
  have : findL l x.1 = some x.2 := (findL_iff hs).2 hx
  simp [lenAt, this]
/-- the files behind k of a crash's files -/
def crashG (picks : List Int) (l : List Nat) (g : Nat → FSt) (k : Nat) (i : Nat) : FSt := if i ∈ l.take k then (g i).settled (pickAt picks (l.idxOf i + 1) % ((g i).loose + 1)) else g i
theorem crashG_zero (picks : List Int) (l : List Nat) (g : Nat → FSt) : crashG picks l g 0 = g := by funext i; simp [crashG]
theorem crashG_all (picks : List Int) (l : List Nat) (g : Nat → FSt) : crashG picks l g l.length = crashT picks l g := by funext i; simp [crashG, crashT]
theorem crashG_next {picks : List Int} {l : List Nat} {g : Nat → FSt} (hd : l.Nodup) {k x : Nat} (hx : l[k]? = some x) : upd (crashG picks l g k) x ((g x).settled (pickAt picks (k + 1) % ((g x).loose + 1))) = crashG picks l g (k + 1) := by
  have hk : k < l.length := (List.getElem?_eq_some_iff.1 hx).1
  have hxe : l[k] = x := (List.getElem?_eq_some_iff.1 hx).2
  have hidx : l.idxOf x = k := by rw [← hxe]; exact hd.idxOf_getElem k hk
  funext i
  by_cases e : i = x
  · subst e
    rw [upd_same]
    have hm : i ∈ l.take (k + 1) := by rw [take_next6 hx]; simp
    unfold crashG
    rw [if_pos hm, hidx]
  · rw [upd_other _ _ e]
    unfold crashG
    have : i ∈ l.take (k + 1) ↔ i ∈ l.take k := by rw [take_next6 hx, List.mem_append, List.mem_singleton]; exact ⟨fun h => h.resolve_right e, .inl⟩
    by_cases hm : i ∈ l.take k
    · rw [if_pos hm, if_pos (this.2 hm)]
    · rw [if_neg hm, if_neg (fun h => hm (this.1 h))]
theorem crashG_at {picks : List Int} {l : List Nat} {g : Nat → FSt} (hd : l.Nodup) {k x : Nat} (hx : l[k]? = some x) : crashG picks l g k x = g x := by
  have hk : k < l.length := (List.getElem?_eq_some_iff.1 hx).1
  have hxe : l[k] = x := (List.getElem?_eq_some_iff.1 hx).2
  unfold crashG
  rw [if_neg]
  intro hm
  obtain ⟨j, hj, e⟩ := List.mem_take_iff_getElem.1 hm
  have h1 : l.idxOf x = k := by rw [← hxe]; exact hd.idxOf_getElem k hk
  have h2 : l.idxOf x = j := by rw [← e]; exact hd.idxOf_getElem j (by omega)
  omega
theorem head_drop (picks : List Int) (k : Nat) : (((picks.drop k).head?).getD 0).toNat = pickAt picks k := by
  unfold pickAt
  rw [List.head?_drop]
theorem any_drop {l : List Int} (h : l.any (· < 0) = false) (k : Nat) : (l.drop k).any (· < 0) = false := by
  rw [← Bool.not_eq_true, List.any_eq_true] at h ⊢
  rintro ⟨x, hx, hx2⟩
  exact h ⟨x, List.mem_of_mem_drop hx, hx2⟩
set_option maxRecDepth 100000 in
set_option maxHeartbeats 4000000 in
theorem kcrash_arg {w : World} {A u : Nat} {M R N : Nat → Prop} {s : FsP} {v : Value} {picks : List Int} (h : FsM w A u M R s) (hv : IsR w N v picks) (hp : picks.any (· < 0) = true) :
    Calls Tryz.prog 14 #[.pointer (some ⟨A, 0, none⟩), v] w fun e w' => e = .returned (.int .i64 1) ∧ FsMut w w' A u M R s := by
  have HM := Lib.hid h
  obtain ⟨X, B, n, hv0, K, g, MX, MF, ha, _⟩ := h
  obtain ⟨Av, cv, rfl, hcv, hcm, hrd⟩ := hv
  obtain ⟨W, hW⟩ : ∃ W, W = w.alloc (.cells #[.slice Av picks.length cv] 24) := ⟨_, rfl⟩
  have hb : Below w.heap.size w W := by rw [hW]; exact (Below.refl _ _).alloc (Nat.le_refl _) _
  have c0 : W.cell? ⟨w.heap.size, 0, none⟩ = some (.slice Av picks.length cv) := by rw [hW]; exact box_new _ _ _ _ rfl
  have HC := Lib.hid (ha.on hb).cells
  have hk := kcontains (w := W) (N := N) (v := .slice Av picks.length cv) (l := picks) ⟨Av, cv, rfl, hcv, hcm, hrd.chg (Chg.of_below (M := fun _ => False) hb) (fun i e => e.elim)⟩
  rw [hp] at hk
  have HK := Lib.hid hk
  have HB := Lib.hid hb
  clear ha hk hb hrd
  go_enter Tryz.func14, Tryz.ntmps14
  go_wp2_with fail
  rw [← hW]
  clear hW
  refine (kmade HC.out).mono ?_
  rintro e w' ⟨rfl, rfl⟩
  go_wp2_with fail
  refine HK.out.mono ?_
  rintro e w' ⟨rfl, rfl⟩
  go_wp2_with fail
  go_ret
  exact ⟨rfl, FsMut.of_below HM.out HB.out⟩
/-- a crash, file by file: what the loop keeps -/
def CrR (w5 wr : World) (A X u p : Nat) (M R N : Nat → Prop) (st : FsP) (pk : List Int) : Prop :=
  ∃ B n hv g MX MF M' R' v', FsAt wr A X B n u hv st.dir.live g MX MF M' R' st ∧ n ≤ st.dir.last + 1 ∧ Chg (fun i => M i ∨ i = p) w5 wr ∧ (∀ i, M' i → M i ∨ w5.heap.size ≤ i) ∧ (∀ i, R' i → R i ∨ w5.heap.size ≤ i) ∧
    IsR wr N v' pk ∧ wr.cell? ⟨p, 0, none⟩ = some v' ∧ wr.frozen? ⟨p, 0, none⟩ = false
set_option maxRecDepth 100000 in
set_option maxHeartbeats 8000000 in
theorem kcrash {w : World} {A q T : Nat} {M R N : Nat → Prop} {s : FsP} {v : Value} {picks : List Int} (h : FsM w A s.used M R s) (hf : FInv s q T) (hq : q ≤ 200) (hT : T ≤ 100000) (hv : IsR w N v picks) (hN : ∀ i, M i → ¬ N i) (hNl : ∀ i, N i → i < w.heap.size) (hp : picks.any (· < 0) = false) :
    Calls Tryz.prog 14 #[.pointer (some ⟨A, 0, none⟩), v] w fun e w' => e = .returned (.int .i64 0) ∧ FsMut w w' A (crashK s picks).2.used M R (crashK s picks).2 := by
  obtain ⟨s9, hs9⟩ : ∃ s9, s9 = (crashK s picks).2 := ⟨_, rfl⟩
  rw [← hs9]
  have hs9' : s9 = { s with dir := crashD s picks, file := crashT picks (inosL (crashD s picks).safe) s.file, off := false, fuse := none } := by rw [hs9]; unfold crashK; rw [if_neg (by simp [hp])]
  have hF9 := hf.crashK_ picks
  rw [← hs9] at hF9
  have HF9 := Lib.hid hF9
  have Hs9 := Lib.hid hs9'
  obtain ⟨X, B, n, hv0, K, g, MX, MF, ha0, hn1, hn2, hn3, hn4, hn5⟩ := h.kfacts hf
  obtain ⟨p, hpe⟩ : ∃ p, p = w.heap.size := ⟨_, rfl⟩
  obtain ⟨Av, cv, rfl, hcv, hcm, hrd⟩ := hv
  obtain ⟨W, hW⟩ : ∃ W, W = w.alloc (.cells #[.slice Av picks.length cv] 24) := ⟨_, rfl⟩
  have hb : Below w.heap.size w W := by rw [hW]; exact (Below.refl _ _).alloc (Nat.le_refl _) _
  have hsW : W.heap.size = p + 1 := by rw [hW, hpe]; simp
  have cp : W.cell? ⟨p, 0, none⟩ = some (.slice Av picks.length cv) := by rw [hW]; exact box_new _ _ _ _ hpe
  have fp : W.frozen? ⟨p, 0, none⟩ = false := by rw [hW, hpe]; simp
  have ha := ha0.on hb
  have hIs : IsR W N (.slice Av picks.length cv) picks := ⟨Av, cv, rfl, hcv, hcm, hrd.chg (Chg.of_below (M := fun _ => False) hb) (fun i e => e.elim)⟩
  have hpM : ¬ M p := fun e => by have := h.ml p e; omega
  have hpR : ¬ R p := fun e => by have := h.rl p e; omega
  have hpN : ¬ N p := fun e => by have := hNl p e; omega
  have HpM := Lib.hid hpM
  have HpR := Lib.hid hpR
  have HpN := Lib.hid hpN
  have HNM := Lib.hid hN
  have HNl : Hid (∀ i, N i → i < p) := fun i e => by have := hNl i e; omega
  have Hpx : Hid (∀ i, i = p → ¬ M i ∧ ¬ R i) := fun i e => by rw [e]; exact ⟨hpM, hpR⟩
  have Ha := Lib.hid ha
  have HsW := Lib.hid hsW
  have hk := kcontains hIs
  rw [hp] at hk
  have HK := Lib.hid hk
  have hdl : s.dir.deeds.length ≤ 200 := by have := hf.few; unfold PSt.big at this; omega
  obtain ⟨dl, hdl1⟩ : ∃ dl, dl = s.dir.deeds.length := ⟨_, rfl⟩
  have HL0 := Lib.hid (hloose_m ha.drew.dir)
  have HP0 := Lib.hid (kpick (lo := dl) (hIs.on ((Below.refl W.heap.size W).drew)) (show W.drew.cell? ⟨p, 0, none⟩ = _ from cp) fp hpN (by omega) hp)
  rw [← hdl1] at HL0
  have hr0 : (picks.head?.getD 0).toNat = pickAt picks 0 := by have := head_drop picks 0; simpa using this
  rw [hr0] at HP0
  have hke : s.dir.settle (keepN ((pickAt picks 0 % (dl + 1) : Nat) : Int) s.dir.deeds.length) = crashD s picks := by
    unfold crashD
    rw [← hdl1]
    congr 1
    have := Nat.mod_lt (pickAt picks 0) (show 0 < dl + 1 by omega)
    unfold keepN
    omega
  have HKe := Lib.hid hke
  have Hn := Lib.hid (show n ≤ s.dir.last + 1 ∧ (∀ i, i ∈ K → i ≤ s.dir.last) ∧ (∀ i, i ∈ s.dir.live → i ∈ K) from ⟨hn1, hn2, hn3⟩)
  have HF := Lib.hid hf
  have HB := Lib.hid hb
  have Hpe := Lib.hid hpe
  have HP := Lib.hid hp
  have hc0 := ha.cells.c0
  generalize (pickAt picks 0 % (dl + 1) : Nat) = pk0 at *
  clear ha0 ha hn1 hn2 hn3 hn4 hn5 h hk hIs hpM hpR hpN hke hs9 hs9' hF9 hrd hr0 hdl hf hN hNl hdl1 hp fp hb
  go_enter Tryz.func14, Tryz.ntmps14
  go_wp2_with fail
  rw [← hW, ← hpe]
  clear hW hpe
  refine (kmade Ha.out.cells).mono ?_
  rintro e w' ⟨rfl, rfl⟩
  clear hsW
  go_wp2_with fail
  refine HK.out.mono ?_
  rintro e w' ⟨rfl, rfl⟩
  go_wp2_with fail
  refine wp_region_noPanic ?_
  refine wp_region_held_drew (S := fun w' => w'.cell? ⟨A, 0, none⟩ = some (.pointer (some ⟨X, 0, none⟩))) (by kernel_rfl) hc0 (fun hHeld => ?_)
  clear hc0 HK cp
  have HaW := Lib.hid Ha.out
  replace Ha := Lib.hid Ha.out.drew
  have HWd : Hid (Below w.heap.size w W.drew ∧ W.drew.heap.size = p + 1) := ⟨HB.out.drew, HsW.out⟩
  replace HsW : Hid (W.drew.heap.size = p + 1) := HsW.out
  generalize World.drew _ = W at *
  refine wpAnyH_take (i := 0) (v := ?_) opAt_0 (by kernel_rfl) (by kernel_rfl) (by kernel_rfl) (fun _ _ _ h => h) (Or.inl ⟨by rfl, ?_⟩) hHeld ?_
  rotate_left
  · (intro w' hSw; have k0 := hSw; go_simp; try with_reducible rfl)
  try simp only [Act.put, List.setIfInBounds_toArray, List.set_cons_zero, List.set_cons_succ]
  refine wpAnyH_take (i := 1) (v := ?_) opAt_1 (by kernel_rfl) (by kernel_rfl) (by kernel_rfl) (fun _ _ _ h => h) (Or.inl ⟨by rfl, ?_⟩) hHeld ?_
  rotate_left
  · (intro w' hSw; have k0 := hSw; go_simp; try with_reducible rfl)
  try simp only [Act.put, List.setIfInBounds_toArray, List.set_cons_zero, List.set_cons_succ]
  refine wpAnyH_take (i := 2) (v := ?_) opAt_2 (by kernel_rfl) (by kernel_rfl) (by kernel_rfl) (fun _ _ _ h => h) (Or.inl ⟨by rfl, ?_⟩) hHeld ?_
  rotate_left
  · (intro w' hSw; have k0 := hSw; go_simp; try with_reducible rfl)
  try simp only [Act.put, List.setIfInBounds_toArray, List.set_cons_zero, List.set_cons_succ]
  refine wpAnyH_take (i := 3) (v := ?_) opAt_3 (by kernel_rfl) (by kernel_rfl) (by kernel_rfl) (fun _ _ _ h => h) (Or.inl ⟨by rfl, ?_⟩) hHeld ?_
  rotate_left
  · (intro w' hSw; have k0 := hSw; go_simp; try with_reducible rfl)
  try simp only [Act.put, List.setIfInBounds_toArray, List.set_cons_zero, List.set_cons_succ]
  refine wpAnyH_take (i := 4) (v := ?_) opAt_4 (by kernel_rfl) (by kernel_rfl) (by kernel_rfl) (fun _ _ _ h => h) (Or.inl ⟨by rfl, ?_⟩) hHeld ?_
  rotate_left
  · (intro w' hSw; have k0 := hSw; go_simp; try with_reducible rfl)
  try simp only [Act.put, List.setIfInBounds_toArray, List.set_cons_zero, List.set_cons_succ]
  refine wpAnyH_take (i := 5) (v := ?_) opAt_5 (by kernel_rfl) (by kernel_rfl) (by kernel_rfl) (fun _ _ _ h => h) (Or.inl ⟨by rfl, ?_⟩) hHeld ?_
  rotate_left
  · (intro w' hSw; have k0 := hSw; go_simp; try with_reducible rfl)
  try simp only [Act.put, List.setIfInBounds_toArray, List.set_cons_zero, List.set_cons_succ]
  refine wpAnyH_take (i := 6) (v := ?_) opAt_6 (by kernel_rfl) (by kernel_rfl) (by kernel_rfl) (fun _ _ _ h => h) (Or.inl ⟨by rfl, ?_⟩) hHeld ?_
  rotate_left
  · (intro w' hSw; have k0 := hSw; go_simp; try with_reducible rfl)
  try simp only [Act.put, List.setIfInBounds_toArray, List.set_cons_zero, List.set_cons_succ]
  refine wpAnyH_take (i := 7) (v := ?_) opAt_7 (by kernel_rfl) (by kernel_rfl) (by kernel_rfl) (fun _ _ _ h => h) (Or.inl ⟨by rfl, ?_⟩) hHeld ?_
  rotate_left
  · (intro w' hSw; have k0 := hSw; go_simp; try with_reducible rfl)
  try simp only [Act.put, List.setIfInBounds_toArray, List.set_cons_zero, List.set_cons_succ]
  refine wpAnyH_take (i := 8) (v := ?_) opAt_8 (by kernel_rfl) (by kernel_rfl) (by kernel_rfl) (fun _ _ _ h => h) (Or.inl ⟨by rfl, ?_⟩) hHeld ?_
  rotate_left
  · (intro w' hSw; have k0 := hSw; go_simp; try with_reducible rfl)
  try simp only [Act.put, List.setIfInBounds_toArray, List.set_cons_zero, List.set_cons_succ]
  refine wpAnyH_ready (rs := [9]) (by kernel_rfl) (by simp) ?_
  refine AllReadyH.cons rfl (fun K hK => ?_) AllReadyH.nil
  go_simp
  refine HL0.out.mono ?_
  rintro e w1 ⟨rfl, rfl⟩
  try go_wp2_with fail
  refine hK.out _ _ hHeld (fun hHeld => ?_)
  clear hK K
  try simp only [Act.put, List.setIfInBounds_toArray, List.set_cons_zero, List.set_cons_succ]
  refine wpAnyH_ready (rs := [10]) (by kernel_rfl) (by simp) ?_
  refine AllReadyH.cons rfl (fun K hK => ?_) AllReadyH.nil
  go_simp
  refine HP0.out.mono ?_
  rintro e w1 ⟨v1, rfl, hv1, cp1, fp1, hg1⟩
  have hh1 := Ha.out.chg hg1 Hpx.out
  have hg1M : Chg (fun i => M i ∨ i = p) W w1 := hg1.mono (fun i e => .inr e)
  have Hv1 := Lib.hid hv1
  have Hcp1 := Lib.hid (show w1.cell? ⟨p, 0, none⟩ = some v1 ∧ w1.frozen? ⟨p, 0, none⟩ = false from ⟨cp1, fp1⟩)
  have H1 := Lib.hid hh1
  have HG1 := Lib.hid hg1M
  have hk1 : w1.cell? ⟨A, 0, none⟩ = some (.pointer (some ⟨X, 0, none⟩)) := hh1.cells.c0
  clear hv1 cp1 fp1 hg1 hh1 hg1M
  try go_wp2_with fail
  refine hK.out _ _ hk1 (fun hHeld => ?_)
  clear hK K
  try simp only [Act.put, List.setIfInBounds_toArray, List.set_cons_zero, List.set_cons_succ]
  refine wpAnyH_ready (rs := [11]) (by kernel_rfl) (by simp) ?_
  refine AllReadyH.cons rfl (fun K hK => ?_) AllReadyH.nil
  go_simp
  refine (hcrash H1.out.dir _).mono ?_
  rintro e w2 ⟨rfl, hm⟩
  rw [HKe.out] at hm
  obtain ⟨MX2, M2, R2, h3, h4, h5, h6⟩ := H1.out.dir_mut hm
  have hk2 : w2.cell? ⟨A, 0, none⟩ = some (.pointer (some ⟨X, 0, none⟩)) := h3.cells.c0
  have H2 := Lib.hid h3
  have HG2 := Lib.hid (HG1.out.trans h4 (fun i e => .inl (.inl e)))
  have hcp2 := Hcp1.out
  have Hcp2 := Lib.hid (show w2.cell? ⟨p, 0, none⟩ = some v1 ∧ w2.frozen? ⟨p, 0, none⟩ = false from ⟨cell_keep h4 HpM.out hcp2.1, (h4.frozen (p := ⟨p, 0, none⟩) (fblock_of_cell hcp2.1) HpM.out).trans hcp2.2⟩)
  have HV2 := Lib.hid (Hv1.out.chg h4 HNM.out)
  have hs1 := HG1.out.size
  have HM2 : Hid (∀ i, M2 i → M i ∨ W.heap.size ≤ i) := fun i e => (h5 i e).imp id (fun e => Nat.le_trans hs1 e)
  have HR2 : Hid (∀ i, R2 i → R i ∨ W.heap.size ≤ i) := fun i e => (h6 i e).imp id (fun e => Nat.le_trans hs1 e)
  clear hm h3 h4 h5 h6 hcp2 hs1
  try go_wp2_with fail
  refine hK.out _ _ hk2 (fun hHeld => ?_)
  clear hK K
  try simp only [Act.put, List.setIfInBounds_toArray, List.set_cons_zero, List.set_cons_succ]
  refine wpAnyH_done (by kernel_rfl) ?_ _
  refine NoPanic.normal ?_
  have hf1 : GInv (crashD s picks) := HF.out.ino.settle (by have := Nat.mod_lt (pickAt picks 0) (show 0 < s.dir.deeds.length + 1 by omega); omega)
  have hlast : s.dir.last ≤ 200 := Nat.le_trans HF.out.last hq
  have hfew9 := Nat.le_trans (settle_big s.dir (pickAt picks 0 % (s.dir.deeds.length + 1))) HF.out.few
  have hfew : (crashD s picks).safe.length ≤ 200 := by unfold PSt.big at hfew9; show (s.dir.settle _).safe.length ≤ 200; omega
  have hlv : ∀ i, i ∈ (crashD s picks).live → i ∈ K := fun i hi => Hn.out.2.2 i (live_settle HF.out.ino HF.out.dir.settled (by have := Nat.mod_lt (pickAt picks 0) (show 0 < s.dir.deeds.length + 1 by omega); omega) i hi)
  have HBu := Lib.hid (kbury H2.out hlv hf1 hfew (by show s.dir.last ≤ 10000; omega))
  have HG := Lib.hid hf1
  have HFew := Lib.hid (show (crashD s picks).safe.length ≤ 200 ∧ (crashD s picks).last ≤ 200 from ⟨hfew, hlast⟩)
  have hlf := hf1.live_few H2.out.dir.ok
  have Hlf := Lib.hid hlf
  have Hok := Lib.hid H2.out.dir.ok
  clear hf1 hfew9 hfew hlv hlf hHeld hlast
  go_wp2_with fail
  refine HBu.out.mono ?_
  rintro e w3 ⟨rfl, B3, n3, h31, h32, h33, h34⟩
  have H3 := Lib.hid h31
  have HAM2 := Lib.hid H2.out.mA
  have hG3 := HG2.out.trans (h32.mono (fun i e => by rw [e]; exact HAM2.out)) (fun i e => (HM2.out i e).imp (fun e => .inl e) id)
  have HG3 := Lib.hid hG3
  have hs2 := HG2.out.size
  have HM3 : Hid (∀ i, (M2 i ∨ i = B3) → M i ∨ W.heap.size ≤ i) := fun i e => e.elim (HM2.out i) (fun e => .inr (by omega))
  have hA2 : ∀ i, i = A → ¬ (i = p) := fun i e e' => HpM.out (by
    have h9 := HM2.out A HAM2.out
    rcases h9 with h9 | h9
    · rw [← e', e]; exact h9
    · have := HsW.out; omega)
  have hcp2 := Hcp2.out
  have Hcp3 := Lib.hid (show w3.cell? ⟨p, 0, none⟩ = some v1 ∧ w3.frozen? ⟨p, 0, none⟩ = false from ⟨cell_keep h32 (fun e => hA2 p e rfl) hcp2.1, (h32.frozen (p := ⟨p, 0, none⟩) (fblock_of_cell hcp2.1) (fun e => hA2 p e rfl)).trans hcp2.2⟩)
  have HMA := Lib.hid HaW.out.mA
  have HV3 := Lib.hid (HV2.out.chg h32 (fun i e => by rw [e]; exact HNM.out A HMA.out))
  have hc0 := H3.out.cells.c0
  have HLi := Lib.hid (hlive_m H3.out.dir HFew.out.1 (Nat.le_trans HFew.out.2 (by omega)))
  have H34 := Lib.hid h34
  clear h31 h32 h33 h34 hcp2 hA2 hs2 hG3
  go_wp2_with fail
  refine HLi.out.mono ?_
  rintro e w5 ⟨v5, rfl, hus, hb5⟩
  have H5 := Lib.hid (H3.out.on hb5)
  have HG5 := Lib.hid (HG3.out.trans (Chg.of_below (M := fun _ => False) hb5) (fun i e => e.elim))
  have HV5 := Lib.hid (HV3.out.on hb5)
  have hcp3 := Hcp3.out
  have Hcp5 := Lib.hid (show w5.cell? ⟨p, 0, none⟩ = some v1 ∧ w5.frozen? ⟨p, 0, none⟩ = false from ⟨(hb5.cell (p := ⟨p, 0, none⟩) (fblock_of_cell hcp3.1)).trans hcp3.1, (hb5.frozen (p := ⟨p, 0, none⟩) (fblock_of_cell hcp3.1)).trans hcp3.2⟩)
  have HUs := Lib.hid hus
  have Hml : Hid (∀ i, (M2 i ∨ i = B3) → i < w3.heap.size) := H3.out.ml
  have Hs35 := Lib.hid hb5.size
  obtain ⟨A5, c5, rfl, h51, h52, _⟩ := hus
  obtain ⟨lv, hlv⟩ : ∃ lv, lv = (crashD s picks).live := ⟨_, rfl⟩
  obtain ⟨qn, hqn⟩ : ∃ qn, qn = lv.length := ⟨_, rfl⟩
  rw [← hlv] at h51 HUs Hlf H34 ⊢
  rw [← hqn] at h51 HUs ⊢
  have hq2 : qn ≤ 201 := by rw [hqn]; exact Nat.le_trans Hlf.out (by have := HFew.out.2; omega)
  have Hlv := Lib.hid hlv
  have Hqn := Lib.hid hqn
  clear hb5 hcp3 hlv hqn hc0
  obtain ⟨lv9, hlv9⟩ : ∃ lv9, lv9 = inosL (crashD s picks).safe := ⟨_, rfl⟩
  have HlvI : Hid (lv = inosL (crashD s picks).safe) := Hlv.out.trans (live_crashD s picks)
  clear hlv9
  have Hnd : Hid (lv.Nodup) := by have := HG.out.live_lt Hok.out; rw [← Hlv.out] at this; exact this.imp (fun hlt e => by omega)
  have Hlle : Hid (∀ i, i ∈ lv → i ≤ s.dir.last) := fun i hi => by rw [Hlv.out] at hi; exact (HG.out.live_le Hok.out.settled i hi).2
  have HpM5 : Hid (¬ (M2 p ∨ p = B3)) := fun e => (HM3.out p e).elim HpM.out (fun e => by have := HsW.out; omega)
  have HpR2 : Hid (¬ R2 p) := fun e => (HR2.out p e).elim HpR.out (fun e => by have := HsW.out; omega)
  have HN5 : Hid (∀ i, (M2 i ∨ i = B3) → ¬ N i) := fun i e e' => (HM3.out i e).elim (fun e => HNM.out i e e') (fun e => by have := HsW.out; have := HNl.out i e'; omega)
  have Hp3 : Hid (p < w3.heap.size) := fblock_of_cell Hcp3.out.1
  have H50 : Hid (CrR w5 w5 A X s.used p (fun i => M2 i ∨ i = B3) R2 N { s with dir := crashD s picks, file := crashG picks lv s.file 0 } (picks.drop 1)) := by
    rw [crashG_zero]
    have h9 := HV5.out
    exact ⟨B3, n3, hv0, g, MX2, MF, _, R2, v1, H5.out, by have := Hlf.out; have := H34.out; have h8 := HG.out.live_few Hok.out; rw [← Hlv.out] at h8; show n3 ≤ (crashD s picks).last + 1; omega, Chg.refl, fun i => .inl, fun i => .inl, h9, Hcp5.out.1, Hcp5.out.2⟩
  go_wp2_with fail
  go_loopw [35] (fun i wr => ∃ k : Nat, k ≤ qn ∧ i = .int .i64 k ∧ CrR w5 wr A X s.used p (fun i => M2 i ∨ i = B3) R2 N { s with dir := crashD s picks, file := crashG picks lv s.file k } (picks.drop (k + 1))) (fun i _ => qn - (intOf i).toNat)
  case atStart => exact ⟨0, by omega, rfl, H50.out⟩
  case round =>
    obtain ⟨k, hk, rfl, hcr⟩ := hrel
    obtain ⟨Bk, nk, hvk, gk, MXk, MFk, Mk, Rk, vk, hak, hnk, hck, hMk, hRk, hik, hpk, hfk⟩ := hcr
    have Hk := Lib.hid hak
    have HCk := Lib.hid hck
    have HMk := Lib.hid hMk
    have HRk := Lib.hid hRk
    have HIk := Lib.hid hik
    have Hpk := Lib.hid (show wr.cell? ⟨p, 0, none⟩ = some vk ∧ wr.frozen? ⟨p, 0, none⟩ = false from ⟨hpk, hfk⟩)
    have Hnk := Lib.hid hnk
    have Hs5r := Lib.hid hck.size
    have HpMk : Hid (¬ Mk p) := fun e => (HMk.out p e).elim HpM5.out (fun e => by have := Hp3.out; have := Hs35.out; omega)
    have HpRk : Hid (¬ Rk p) := fun e => (HRk.out p e).elim HpR2.out (fun e => by have := Hp3.out; have := Hs35.out; omega)
    clear hak hnk hck hMk hRk hik hpk hfk
    by_cases hkq : k < qn
    · have hdq : decide ((k : Int) < (qn : Int)) = true := decide_eq_true (by omega)
      obtain ⟨x, hx⟩ : ∃ x, lv[k]? = some x := ⟨lv[k]'(by have := Hqn.out; omega), List.getElem?_eq_getElem _⟩
      have HX := Lib.hid hx
      have hUk := HUs.out.chg HCk.out (fun i hi e => by
        rcases e with e | e
        · have := Hml.out i e; omega
        · have := Hp3.out; omega)
      obtain ⟨b5, o5, rfl, hb5, e0⟩ := hUk.at_ rfl hx
      have hxm : x ∈ (crashD s picks).live := by rw [← Hlv.out]; exact List.mem_of_getElem? hx
      have hgx : crashG picks lv s.file k x = s.file x := crashG_at Hnd.out hx
      have hbx : (s.file x).big ≤ T := HF.out.big_le (Hlle.out x (List.mem_of_getElem? hx))
      have hfx := Hk.out.files x hxm
      rw [show FsP.file { s with dir := crashD s picks, file := crashG picks lv s.file k } x = s.file x from hgx] at hfx
      have HFx := Lib.hid hfx
      have hlook := Hk.out.map.look (Hk.out.ks x hxm) hxm
      have hc1 := Hk.out.cells.c1
      have Hxm := Lib.hid hxm
      obtain ⟨lo, hlo⟩ : ∃ lo, lo = (s.file x).loose := ⟨_, rfl⟩
      have hlo2 : lo ≤ 100000 := by rw [hlo]; unfold FSt.big at hbx; omega
      have HLo := Lib.hid (floose_m hfx lo hlo.symm)
      have Hlo := Lib.hid hlo
      obtain ⟨pkk, hpkk⟩ : ∃ pkk, pkk = pickAt picks (k + 1) % (lo + 1) := ⟨_, rfl⟩
      have hpkl : pkk ≤ lo := by rw [hpkk]; have := Nat.mod_lt (pickAt picks (k + 1)) (show 0 < lo + 1 by omega); omega
      have Hpkk := Lib.hid hpkk
      have HPk : Hid (∀ w6, Below wr.heap.size wr w6 → Calls Tryz.prog 46 #[.int .i64 (lo : Int), .pointer (some ⟨p, 0, none⟩)] w6 fun e w' => ∃ v', e = .returned (.int .i64 (pkk : Int)) ∧ IsR w' N v' (picks.drop (k + 1 + 1)) ∧ w'.cell? ⟨p, 0, none⟩ = some v' ∧ w'.frozen? ⟨p, 0, none⟩ = false ∧ Chg (fun i => i = p) w6 w') := fun w6 hb6 => by
        have h9 := kpick (lo := lo) (HIk.out.on hb6) ((hb6.cell (p := ⟨p, 0, none⟩) (fblock_of_cell Hpk.out.1)).trans Hpk.out.1) ((hb6.frozen (p := ⟨p, 0, none⟩) (fblock_of_cell Hpk.out.1)).trans Hpk.out.2) HpN.out (by omega) (any_drop HP.out (k + 1))
        rw [head_drop, List.drop_drop, ← Hpkk.out] at h9
        exact h9
      have Hbx := Lib.hid hbx
      obtain ⟨Fx, hFx⟩ : ∃ Fx, Fx = gk x := ⟨_, rfl⟩
      rw [← hFx] at hlook HLo
      have HFe := Lib.hid hFx
      have hlk2 := hpkl
      clear hx hUk hb5 hxm hgx hbx hfx hlo hpkk hFx
      go_wp2_with fail
      refine HLo.out.mono ?_
      rintro e w6 ⟨rfl, hb6⟩
      have HB6 := Lib.hid hb6
      have HPk6 := Lib.hid (HPk.out w6 hb6)
      clear hb6 hc1 hlook e0
      go_wp2_with fail
      refine HPk6.out.mono ?_
      rintro e w7 ⟨v7, rfl, hi7, hp7, hf7, hg7⟩
      have h7 := (Hk.out.on HB6.out).chg hg7 (fun i e => by rw [e]; exact ⟨HpMk.out, HpRk.out⟩)
      have hfx7 := h7.files x Hxm.out
      rw [show FsP.file { s with dir := crashD s picks, file := crashG picks lv s.file k } x = s.file x from crashG_at Hnd.out HX.out] at hfx7
      have hcr7 := fcrash_m hfx7 (Nat.le_trans Hbx.out (by omega)) pkk pkk (by rw [← Hlo.out]; omega)
      rw [← HFe.out] at hcr7
      have HC7 := Lib.hid hcr7
      have H7 := Lib.hid h7
      have HI7 := Lib.hid hi7
      have Hp7 := Lib.hid (show w7.cell? ⟨p, 0, none⟩ = some v7 ∧ w7.frozen? ⟨p, 0, none⟩ = false from ⟨hp7, hf7⟩)
      have HG7 := Lib.hid ((HCk.out.trans (Chg.of_below (M := fun _ => False) HB6.out) (fun i e => e.elim)).trans hg7 (fun i e => .inl (.inr e)))
      clear h7 hfx7 hcr7 hi7 hp7 hf7 hg7
      go_wp2_with fail
      refine HC7.out.mono ?_
      rintro e w8 ⟨rfl, hm8⟩
      rw [HFe.out] at hm8
      obtain ⟨MF8, M8, R8, h81, h82, h83, h84⟩ := H7.out.file_mut Hxm.out hm8
      have hs57 := HG7.out.size
      have HFin : Hid (CrR w5 w8 A X s.used p (fun i => M2 i ∨ i = B3) R2 N { s with dir := crashD s picks, file := crashG picks lv s.file (k + 1) } (picks.drop (k + 1 + 1))) := by
        have e9 := crashG_next (picks := picks) (g := s.file) Hnd.out HX.out
        rw [← Hlo.out, ← Hpkk.out] at e9
        have h81' : FsAt w8 A X Bk nk s.used hvk (crashD s picks).live gk MXk MF8 M8 R8 { s with dir := crashD s picks, file := crashG picks lv s.file (k + 1) } := by rw [← e9]; exact h81
        refine ⟨Bk, nk, hvk, gk, MXk, MF8, M8, R8, v7, h81', Hnk.out, HG7.out.trans h82 (fun i e => (HMk.out i e).imp .inl id), fun i e => (h83 i e).elim (HMk.out i) (fun e => .inr (by omega)), fun i e => (h84 i e).elim (HRk.out i) (fun e => .inr (by omega)), HI7.out.chg h82 (fun i e e' => ?_), cell_keep h82 HpMk.out Hp7.out.1, (h82.frozen (p := ⟨p, 0, none⟩) (fblock_of_cell Hp7.out.1) HpMk.out).trans Hp7.out.2⟩
        rcases HMk.out i e with e | e
        · exact HN5.out i e e'
        · have := HNl.out i e'; have := Hp3.out; have := Hs35.out; omega
      clear hm8 h81 h82 h83 h84 hs57
      go_wp2_with fail
      go_roundw
      case rel => exact ⟨k + 1, by omega, by go_num, HFin.out⟩
      case measure => simp [intOf]; omega
    · have hdq : decide ((k : Int) < (qn : Int)) = false := decide_eq_false (by omega)
      have hkk : k = qn := by omega
      have hfile : crashG picks lv s.file k = crashT picks (inosL (crashD s picks).safe) s.file := by rw [hkk, Hqn.out, crashG_all, HlvI.out]
      rw [hfile] at Hk
      have hdone : s9 = { (({ s with dir := crashD s picks, file := crashT picks (inosL (crashD s picks).safe) s.file } : FsP)) with off := false, fuse := none } := Hs9.out
      obtain ⟨st, hst⟩ : ∃ st : FsP, st = { s with dir := crashD s picks, file := crashT picks (inosL (crashD s picks).safe) s.file } := ⟨_, rfl⟩
      have hdir : st.dir = crashD s picks := by rw [hst]
      have hset : st.quota = s.quota ∧ st.steps = s.steps ∧ st.off = s.off := by rw [hst]; exact ⟨rfl, rfl, rfl⟩
      rw [← hst] at Hk hdone
      rw [← hdir] at HG Hok HFew Hlf
      have Hdone := Lib.hid hdone
      have hus9 : s9.used = usedL st.file st.dir.now := by rw [hdone]; rfl
      have hF9 := HF9.out
      have hbg : ∀ i, i ∈ st.dir.live → (st.file i).big ≤ T := fun i hi => by
        have h1 := hF9.big_le (i := i) (by rw [hdone]; exact (HG.out.live_le Hok.out.settled i hi).2)
        rw [hdone] at h1
        exact h1
      have HFM : Hid (FsM wr A s.used Mk Rk st) := ⟨X, Bk, nk, hvk, st.dir.live, gk, MXk, MFk, Hk.out, by have := Hnk.out; rw [hdir]; exact this, fun i hi => (HG.out.live_le Hok.out.settled i hi).2, fun i hi => hi⟩
      have hbN := bytesN_names (g := st.file) Hok.out.now.1
      have HLs := Lib.hid (kall HFM.out)
      have HBy : Hid (∀ w9 v9, w9.ownsRow wr.heap.size 9 1 v9 (namesL st.dir.now).length (svs (namesL st.dir.now)) → Below wr.heap.size wr w9 → Calls Tryz.prog 52 #[.pointer (some ⟨A, 0, none⟩), v9] w9 fun e w' => e = .returned (.int .i64 ((s9.used : Nat) : Int)) ∧ Below w9.heap.size w9 w') := fun w9 v9 ho hb => by
        have h9 := kbytesOf (Hk.out.on hb) (fun x hx => HG.out.live_now Hok.out.settled x hx) (fun i hi => Nat.le_trans (hbg i hi) (by omega)) (by rw [hbN, ← hus9]; exact Nat.le_trans hF9.used_le (by omega)) (sos_of_own ho rfl) (fun x hx => by
          unfold namesL at hx
          obtain ⟨y, hy, rfl⟩ := List.mem_map.1 hx
          have := (Hok.out.now.2 y hy).1
          unfold maxLen
          omega) (by unfold namesL; rw [List.length_map]; exact Nat.le_trans Hok.out.now_length (by omega))
        rw [hbN, ← hus9] at h9
        exact h9
      have Hset := Lib.hid hset
      obtain ⟨u9, hu9⟩ : ∃ u9, u9 = s9.used := ⟨_, rfl⟩
      rw [← hu9] at HBy
      have Hu9 := Lib.hid hu9
      have Hdir := Lib.hid hdir
      clear hdone hst hus9 hF9 hbg hbN hset hfile hu9 hdir
      go_wp2_with fail
      refine HLs.out.mono ?_
      rintro e w9 ⟨v9, rfl, ho9, hb9⟩
      have HB9 := Lib.hid hb9
      have HBy9 := Lib.hid (HBy.out w9 v9 ho9 hb9)
      clear ho9 hb9 HBy HLs
      go_wp2_with fail
      refine HBy9.out.mono ?_
      rintro e w10 ⟨rfl, hb10⟩
      have H10 := Lib.hid ((Hk.out.on HB9.out).on hb10)
      have HB10 : Hid (Below wr.heap.size wr w10) := HB9.out.trans (hb10.mono HB9.out.size)
      have c3 := H10.out.cells.c3
      have f3 := H10.out.cells.f3
      have c5 := H10.out.cells.c5
      have f5 := H10.out.cells.f5
      have c6 := H10.out.cells.c6
      have f6 := H10.out.cells.f6
      have HFin : Hid (FsM (((w10.setCell ⟨A, 3, none⟩ (.int .i64 (u9 : Int))).setCell ⟨A, 5, none⟩ (.bool true)).setCell ⟨A, 6, none⟩ (.func (.func 28) #[] #[])) A u9 Mk Rk s9) := by
        rw [Hdone.out]
        exact ⟨X, Bk, nk, _, st.dir.live, gk, MXk, MFk, H10.out.own_set (((chg_set w10 A 3 _).trans (chg_set _ A 5 _) (fun i e => .inl e)).trans (chg_set _ A 6 _) (fun i e => .inl e)) (((H10.out.cells.set3 u9).set5 true).set6 _) rfl rfl (fun _ => rfl) ⟨_, _, rfl⟩, by show nk ≤ st.dir.last + 1; rw [Hdir.out]; exact Hnk.out, fun i hi => (HG.out.live_le Hok.out.settled i hi).2, fun i hi => hi⟩
      have hWp := HWd.out.1.size
      have HCf : Hid (Chg M w (((w10.setCell ⟨A, 3, none⟩ (.int .i64 (u9 : Int))).setCell ⟨A, 5, none⟩ (.bool true)).setCell ⟨A, 6, none⟩ (.func (.func 28) #[] #[]))) := by
        have g1 : Chg M w W := Chg.of_below HWd.out.1
        have hpw := Hpe.out
        have g2 := g1.trans HG5.out (fun i e => e.elim .inl (fun e => .inr (by omega)))
        have g3 := g2.trans HCk.out (fun i e => e.elim (fun e => (HM3.out i e).imp id (fun e => by omega)) (fun e => .inr (by omega)))
        have g4 := g3.trans (Chg.of_below (M := fun _ => False) HB10.out) (fun i e => e.elim)
        exact ((g4.setCell (p := ⟨A, 3, none⟩) HMA.out _).setCell (p := ⟨A, 5, none⟩) HMA.out _).setCell (p := ⟨A, 6, none⟩) HMA.out _
      have hG5s := HG5.out.size
      have HMf : Hid (∀ i, Mk i → M i ∨ w.heap.size ≤ i) := fun i e => (HMk.out i e).elim (fun e => (HM3.out i e).imp id (fun e => by omega)) (fun e => .inr (by omega))
      have HRf : Hid (∀ i, Rk i → R i ∨ w.heap.size ≤ i) := fun i e => (HRk.out i e).elim (fun e => (HR2.out i e).imp id (fun e => by omega)) (fun e => .inr (by omega))
      clear hb10 hWp hG5s
      go_wp2_with fail
      go_ret
      rw [← Hu9.out]
      exact ⟨rfl, Mk, Rk, HFin.out, HCf.out, HMf.out, HRf.out⟩
end Go.Proofs.YtboeiadfmknidaaGreat
