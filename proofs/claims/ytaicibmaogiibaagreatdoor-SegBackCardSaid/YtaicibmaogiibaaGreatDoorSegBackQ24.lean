/-
  SegBack, part 24 of what the law's proof leans on: WSegBack.
-/
import Derived.BigQuiet
import Derived.Test.YtaicibmaogiibaaGreatDoorSegBackQ23
import Derived.Test.YtaicibmaogiibaaGreatDoorSegBackQ22
import Derived.Test.YtaicibmaogiibaaGreatDoorSegBackQ19
import Derived.Test.YtaicibmaogiibaaGreatDoorSegBackQ20
import Derived.Test.YtaicibmaogiibaaGreatDoorSegBackQ1
/- WSegBack -/

/-
  SegBack, walked: what was appended is read back, by the segment, by one of its seal, by a scan.
-/
set_option linter.unusedVariables false
set_option linter.unusedSimpArgs false
namespace Go.Proofs.YtaicibmaogiibaaGreatDoor.segBack
open Go Go.RowKit Go.Proofs.YtaicibmaogiibaaGreatDoor Go.Proofs.YtaicibmaogiibaaGreatDoor.Sg

theorem seal_num {id : Nat} {L : List Rc.Rec} (h : Numb L) (z : Nat) : Sc.seal_ ⟨id, Sc.places 16 L, [], z, 0⟩ = ⟨id, z, L.length, if L.length = 0 then 0 else 1, L.length⟩ := by
  have h1 : Sc.firstOf (Sc.places 16 L) = if L.length = 0 then 0 else 1 := by
    rcases L with _ | ⟨r, L⟩
    · rfl
    · have := h.num 0 r rfl
      show r.seq.toNat = _
      rw [if_neg (by simp)]
      omega
  have h2 : Sc.lastF (Sc.places 16 L) = L.length := by
    rcases Nat.eq_zero_or_pos L.length with h0 | h0
    · have : L = [] := List.length_eq_zero_iff.1 h0
      subst this
      rfl
    · have e := Sc.lastF_get2 h.up (by rintro rfl; simp at h0)
      obtain ⟨r, hr⟩ : ∃ r, L[L.length - 1]? = some r := ⟨_, List.getElem?_eq_getElem (by omega)⟩
      rw [Sc.lastOf_all hr (by omega), h.num _ r hr] at e
      omega
  unfold Sc.seal_
  simp only [h1, h2, Sc.places_length, List.length_nil, Nat.add_zero]
set_option maxRecDepth 100000 in
set_option maxHeartbeats 32000000 in
theorem walk (v0 : Value) (l0 : List Rc.Rec) (a1 : Int) (a2 : Int) (w : World) (w0 : Recs w w.heap.size v0 l0) (w1 : (Lit.int .u32 a1).wf = true) (w2 : (Lit.int .u16 a2).wf = true) (ht : Ctx w.heap.size w) :
    Calls Tryz.prog 3 #[v0, .int .u32 a1, .int .u16 a2] w fun e w' => e = .returned (.bool true) ∧ Below w.heap.size w w' := by
  obtain ⟨i0, rfl, hi0⟩ : ∃ n : Nat, a1 = (n : Int) ∧ n < 4294967296 := by
    have h := bounds_u32 w1
    exact ⟨a1.toNat, by omega, by omega⟩
  obtain ⟨at_, rfl, hat⟩ : ∃ n : Nat, a2 = (n : Int) ∧ n < 65536 := by
    have h := bounds_u16 w2
    exact ⟨a2.toNat, by omega, by omega⟩
  obtain ⟨id, hid⟩ : ∃ id, id = 1 + i0 % 16777215 := ⟨_, rfl⟩
  have hi : 1 ≤ id ∧ id ≤ 16777215 := by omega
  have HI := Lib.hid hi
  clear w1 w2
  have HN := Lib.hid (snum w0)
  have HX := Lib.hid ht
  obtain ⟨L, hL⟩ : ∃ L, L = numL l0 := ⟨_, rfl⟩
  rw [← hL] at HN
  have HL : Hid (Numb L) := Lib.hid (hL ▸ numL_numb l0)
  obtain ⟨n, hn⟩ : ∃ n, n = L.length := ⟨_, rfl⟩
  have hn30 : n ≤ 30 := by rw [hn]; exact HL.out.few
  have HNN := Lib.hid hn
  clear w0 ht hL hn
  go_enter Tryz.func3, Tryz.ntmps3
  go_wp2_with fail
  refine HN.out.mono ?_
  rintro e x1 ⟨v', t, rfl, htl, ht30, hown, htri, hb1⟩
  have hrecs : Recs x1 x1.heap.size v' L := htl ▸ recs_of_own hown htri hb1.size
  obtain ⟨Av, cv, rfl, hvc, hvm, hrec⟩ := (show Recs x1 x1.heap.size v' L from hrecs)
  rw [← HNN.out] at hrecs hvc
  have HR := Lib.hid hrecs
  have HB1 := Lib.hid hb1
  clear hown htri hb1 htl ht30 hrec hrecs HN
  rw [← HNN.out]
  have m1 : (i0 : Int) % 16777215 = ((id : Int) - 1) := by omega
  have m2 : IntKind.u32.wrap (1 + ((id : Int) - 1)) = (id : Int) := by rw [IntWalk.u32_in _ (by omega)]; omega
  have m3 : (i0 : Int).tmod 16777215 = ((id : Int) - 1) := by rw [Int.tmod_eq_emod_of_nonneg (by omega)]; exact m1
  clear hid
  go_wp2_with fail
  clear m1 m2 m3
  refine (knew x1 1073741824 (by omega)).mono ?_
  rintro e x2 ⟨A, M0, rfl, hm, hb2, hM0⟩
  have HM2 := Lib.hid (And.intro hm hM0)
  have HB2 := Lib.hid hb2
  clear hm hM0 hb2
  go_wp2_with fail
  refine (swakes x2 ((HX.out.below (bel11 HB1.out HB2.out)).mono (bel11 HB1.out HB2.out).size)).mono ?_
  rintro e x3 ⟨rfl, hb3⟩
  have HB3 := Lib.hid (bel11 HB2.out hb3)
  have HM3 := Lib.hid (And.intro (HM2.out.1.on hb3) HM2.out.2)
  have HX3 := Lib.hid (show Ctx x1.heap.size x3 from (HX.out.below (bel11 HB1.out HB3.out)).mono HB1.out.size)
  clear hb3 HM2 HB2
  go_wp2_with fail
  have hlay := slay (B := x1.heap.size) (id := id) (L := L) (v := .slice Av n cv) HX3.out HB3.out.size HM3.out.2 HI.out HM3.out.1 (by omega) (by have := recs_below HR.out HB3.out (Nat.le_refl _); exact this) HL.out
  refine Calls.mono hlay ?_
  clear hlay
  rintro e x4 ⟨G, vat, rfl, M, R, s, k1, k2, k3, k4, k5, k6, k7, k8, k9, k10⟩
  rw [← HNN.out] at k1 k2 k4 k5 k6
  obtain ⟨Al, cl, rfl, hlc, _, _⟩ := own_slice k6
  have h14 : x1.heap.size ≤ x4.heap.size := Nat.le_trans HB3.out.size k8.size
  have HB4 := Lib.hid (show Below x1.heap.size x1 x4 from HB3.out.trans k8)
  have hbs := (fileN_bytes id L n).1
  rw [List.take_of_length_le (by rw [← HNN.out]; exact Nat.le_refl _)] at hbs
  obtain ⟨z, hz⟩ : ∃ z, z = Sg.offN L n := ⟨_, rfl⟩
  have hz2 : 16 ≤ z ∧ z ≤ 40000 := by rw [hz]; exact ⟨off_ge L n, by have := Sg.offN_le HL.out n; omega⟩
  have hlb : (bytesN11 id L).length = z := by rw [hz, HNN.out, bytesN11_length]; unfold Sg.offN; rw [List.take_length]
  obtain ⟨fi, hfi⟩ : ∃ fi, fi = (if n = 0 then 0 else 1 : Nat) := ⟨_, rfl⟩
  have hxs : segN id L n = ⟨id, z, n, fi, n, 0⟩ := by rw [hfi, hz]; rfl
  rw [hxs] at k1
  have HL4 := Lib.hid (And.intro k2.toN (And.intro k4 (And.intro hbs hlb)))
  have HZ := Lib.hid hz
  have HFI := Lib.hid hfi
  have HS4 := Lib.hid k1
  have HROW4 := Lib.hid k6
  have HCx := Lib.hid (show Ctx x1.heap.size x4 from HX3.out.below k8)
  have hrec := recs_below HR.out HB4.out (Nat.le_refl _)
  obtain ⟨_, _, he, _, _, hrec⟩ := hrec
  injection he with he1 he2 he3
  subst he1 he3
  have HREC4 := Lib.hid hrec
  have H14 := Lib.hid h14
  clear k1 k2 k3 k4 k5 k6 k7 k8 k9 k10 hbs hlb hz hfi hxs hrec he2 HM3 HX3 HB3 h14
  have HSE := Lib.hid (fun (V : World) (hV : Below x4.heap.size x4 V) => sseal (HS4.out.2.1.on hV))
  have hsv : (S.seal ⟨id, z, n, fi, n, 0⟩) = .agg #[.int .u32 (id : Int), .int .u32 (z : Int), .int .u32 (n : Int), .int .u64 (fi : Int), .int .u64 (n : Int)] := rfl
  have HSEL := Lib.hid (show ∀ V, Below x4.heap.size x4 V → Calls Tryz.prog 12 #[.pointer (some ⟨G, 0, none⟩)] V fun e w' => e = .returned (.agg #[.int .u32 (id : Int), .int .u32 (z : Int), .int .u32 (n : Int), .int .u64 (fi : Int), .int .u64 (n : Int)]) ∧ Below V.heap.size V w' from fun V hV => HSE.out V hV)
  clear hsv HSE
  go_wp2_with fail
  refine Calls.mono (HSEL.out x4 (Below.refl _ _)) ?_
  rintro e x5 ⟨rfl, hb5⟩
  have HB5 := Lib.hid hb5
  clear hb5
  go_wp2_with fail
  refine Calls.mono (sof (A := A) id z n fi n x5 HI.out (by omega)) ?_
  rintro e x6 ⟨G2, rfl, hG2, hc6, hb6⟩
  have HB6 := Lib.hid (bel11 HB5.out hb6)
  have HY6 := Lib.hid (show SegIn x6 G2 A M R s ⟨id, z, n, fi, n, n⟩ from ⟨HS4.out.1.on HB6.out, hc6, fun e => by have := HS4.out.1.ml _ e; have := HB5.out.size; omega, fun e => by have := HS4.out.1.rl _ e; have := HB5.out.size; omega⟩)
  clear hc6 hb6 hG2
  go_wp2_with fail
  have hld := sload ofC (HCx.out.below (HB6.out.mono H14.out)) (Nat.le_trans H14.out HB6.out.size) HI.out (HS4.out.1.on HB6.out) HL4.out.2.1 (by omega) HL4.out.1 (mayN_name HI.out) (by rw [HL4.out.2.2.1, HL4.out.2.2.2]; omega)
  rw [HL4.out.2.2.1, numb_of HI.out HL.out, ← HNN.out, ← HZ.out] at hld
  refine Calls.mono hld ?_
  clear hld
  rintro e x7 ⟨rv, rfl, hsv, hb7⟩
  have HSV := Lib.hid (And.intro (show x6.heap.size ≤ x7.heap.size from hb7.size) hsv)
  obtain ⟨Af, cf, Ap, cp, q2, rfl, hq2, hncf, hown2, hfq⟩ := Sc.ScanV.lit2 hsv (id : Int) (z : Int) 0 n 0 rfl (by rw [Sc.places_length]; exact HNN.out.symm) rfl rfl rfl
  have HB7 := Lib.hid (bel11 HB6.out hb7)
  obtain ⟨g13, hg13⟩ : ∃ g, x7.heap.size = g := ⟨_, rfl⟩
  obtain ⟨W, hW⟩ : ∃ V, x7.alloc (.cells #[.int .u32 (id : Int), .slice Af n cf, .slice Ap 0 cp, .int .i64 (z : Int), .int .i64 0] 44) = V := ⟨_, rfl⟩
  have hk13 : W.heap[g13]? = some (.cells #[.int .u32 (id : Int), .slice Af n cf, .slice Ap 0 cp, .int .i64 (z : Int), .int .i64 0] 44 (0, 0)) := by rw [← hW, ← hg13]; exact heap_alloc_new x7 _
  have hbW : Below x7.heap.size x7 W := by rw [← hW]; exact al11 _ _
  have HBW7 := Lib.hid (bel11 HB7.out hbW)
  have HB6W := Lib.hid (bel11 hb7 hbW)
  have HSVW := Lib.hid (show Sc.ScanV 56 W x6.heap.size _ _ from HSV.out.2.on hbW)
  have HOWF := Lib.hid (And.intro (own_below hown2 hbW (Nat.le_refl _)) (And.intro (fun x hx => (hfq x hx).on hbW) hq2))
  have HKP := Lib.hid (show ∀ V : World, Below W.heap.size W V → V.heap[g13]? = some (.cells #[.int .u32 (id : Int), .slice Af n cf, .slice Ap 0 cp, .int .i64 (z : Int), .int .i64 0] 44 (0, 0)) from fun V hV => blk11 hk13 hV)
  have HSCS := Lib.hid (show ∀ V : World, Below W.heap.size W V → Calls Tryz.prog 14 #[.agg #[.int .u32 (id : Int), .slice Af n cf, .slice Ap 0 cp, .int .i64 (z : Int), .int .i64 0]] V fun e w' => e = .returned (.agg #[.int .u32 (id : Int), .int .u32 (z : Int), .int .u32 (n : Int), .int .u64 (fi : Int), .int .u64 (n : Int)]) ∧ Below V.heap.size V w' from fun V hV => by
    have h1 := Sc.sseal12 (HSVW.out.on hV) (by show id < _; have := HI.out; omega) (by show z < _; omega) (by show (Sc.places 16 L).length + 0 ≤ _; rw [Sc.places_length, ← HNN.out]; omega) (fun f hf => by
      obtain ⟨i, r, h1, h2⟩ := places_mem hf
      have := HL.out.num i r h1
      rw [h2]
      show 0 ≤ r.seq
      omega)
    rw [seal_num HL.out, ← HNN.out, ← HFI.out] at h1
    exact h1)
  have HW := Lib.hid (And.intro hW hg13)
  have hcz : IntKind.i64.wrap (z : Int) = (z : Int) := IntWalk.i64_in _ (by omega)
  have hcz2 : wrap64 (z : Int) = (z : Int) := IntWalk.wrap64_in _ (by omega)
  have hfd : ∀ w : World, (Instr.field 39 (.agg #[.int .u32 (id : Int), .int .u32 (z : Int), .int .u32 (n : Int), .int .u64 (fi : Int), .int .u64 (n : Int)]) 1).run Tryz.prog w = .ok (.int .u32 (z : Int)) w := fun _ => by kernel_rfl
  clear hsv hb7 hq2 hown2 hfq hg13 hW hk13 hbW
  go_upto_region 10 with fail
  rw [HW.out.1]
  try rw [HW.out.2]
  go_cut [106] from 66 to 105 (fun s106 wx => s106 = .bool false ∧ Hid (Below W.heap.size W wx))
  case first =>
    as_aux_lemma =>
      refine wp_region_noPanic ?_
      have hb0 : Below W.heap.size W W.drew := (Below.refl _ _).drew
      refine wp_region_held_drew (S := fun V : World => V.heap[g13]? = some (.cells #[.int .u32 (id : Int), .slice Af n cf, .slice Ap 0 cp, .int .i64 (z : Int), .int .i64 0] 44 (0, 0))) (by kernel_rfl) (HKP.out _ hb0) (fun hHeld => ?_)
      generalize World.drew W = V0 at *
      refine wpAnyH_take (i := 0) (v := ?_) opAt_0 (by kernel_rfl) (by kernel_rfl) (by kernel_rfl) (fun _ _ _ h => h) (Or.inl ⟨by rfl, ?_⟩) (by assumption) ?_
      rotate_left
      · (intro w hSw; have m0 := cell_of_row w g13 0 _ _ _ hSw; have m1 := cell_of_row w g13 1 _ _ _ hSw; have m2 := cell_of_row w g13 2 _ _ _ hSw; have m3 := cell_of_row w g13 3 _ _ _ hSw; have m4 := cell_of_row w g13 4 _ _ _ hSw; go_simp; try with_reducible rfl)
      try simp only [Act.put, List.setIfInBounds_toArray, List.set_cons_zero, List.set_cons_succ]
      refine wpAnyH_take (i := 1) (v := ?_) opAt_1 (by kernel_rfl) (by kernel_rfl) (by kernel_rfl) (fun _ _ _ h => h) (Or.inl ⟨by rfl, ?_⟩) (by assumption) ?_
      rotate_left
      · (intro w hSw; have m0 := cell_of_row w g13 0 _ _ _ hSw; have m1 := cell_of_row w g13 1 _ _ _ hSw; have m2 := cell_of_row w g13 2 _ _ _ hSw; have m3 := cell_of_row w g13 3 _ _ _ hSw; have m4 := cell_of_row w g13 4 _ _ _ hSw; go_simp; try with_reducible rfl)
      try simp only [Act.put, List.setIfInBounds_toArray, List.set_cons_zero, List.set_cons_succ]
      refine wpAnyH_take (i := 2) (v := ?_) opAt_2 (by kernel_rfl) (by kernel_rfl) (by kernel_rfl) (fun _ _ _ h => h) (Or.inl ⟨by rfl, ?_⟩) (by assumption) ?_
      rotate_left
      · (intro w hSw; have m0 := cell_of_row w g13 0 _ _ _ hSw; have m1 := cell_of_row w g13 1 _ _ _ hSw; have m2 := cell_of_row w g13 2 _ _ _ hSw; have m3 := cell_of_row w g13 3 _ _ _ hSw; have m4 := cell_of_row w g13 4 _ _ _ hSw; go_simp; try with_reducible rfl)
      try simp only [Act.put, List.setIfInBounds_toArray, List.set_cons_zero, List.set_cons_succ]
      refine wpAnyH_take (i := 3) (v := ?_) opAt_3 (by kernel_rfl) (by kernel_rfl) (by kernel_rfl) (fun _ _ _ h => h) (Or.inl ⟨by rfl, ?_⟩) (by assumption) ?_
      rotate_left
      · (intro w hSw; have m0 := cell_of_row w g13 0 _ _ _ hSw; have m1 := cell_of_row w g13 1 _ _ _ hSw; have m2 := cell_of_row w g13 2 _ _ _ hSw; have m3 := cell_of_row w g13 3 _ _ _ hSw; have m4 := cell_of_row w g13 4 _ _ _ hSw; go_simp; try with_reducible rfl)
      try simp only [Act.put, List.setIfInBounds_toArray, List.set_cons_zero, List.set_cons_succ]
      refine wpAnyH_take (i := 4) (v := ?_) opAt_4 (by kernel_rfl) (by kernel_rfl) (by kernel_rfl) (fun _ _ _ h => h) (Or.inl ⟨by rfl, ?_⟩) (by assumption) ?_
      rotate_left
      · (intro w hSw; have m0 := cell_of_row w g13 0 _ _ _ hSw; have m1 := cell_of_row w g13 1 _ _ _ hSw; have m2 := cell_of_row w g13 2 _ _ _ hSw; have m3 := cell_of_row w g13 3 _ _ _ hSw; have m4 := cell_of_row w g13 4 _ _ _ hSw; go_simp; try with_reducible rfl)
      try simp only [Act.put, List.setIfInBounds_toArray, List.set_cons_zero, List.set_cons_succ]
      refine wpAnyH_take (i := 5) (v := ?_) opAt_5 (by kernel_rfl) (by kernel_rfl) (by kernel_rfl) (fun _ _ _ h => h) (Or.inl ⟨by rfl, ?_⟩) (by assumption) ?_
      rotate_left
      · (intro w hSw; have m0 := cell_of_row w g13 0 _ _ _ hSw; have m1 := cell_of_row w g13 1 _ _ _ hSw; have m2 := cell_of_row w g13 2 _ _ _ hSw; have m3 := cell_of_row w g13 3 _ _ _ hSw; have m4 := cell_of_row w g13 4 _ _ _ hSw; go_simp; try with_reducible rfl)
      try simp only [Act.put, List.setIfInBounds_toArray, List.set_cons_zero, List.set_cons_succ]
      refine wpAnyH_take (i := 6) (v := ?_) opAt_6 (by kernel_rfl) (by kernel_rfl) (by kernel_rfl) (fun _ _ _ h => h) (Or.inl ⟨by rfl, ?_⟩) (by assumption) ?_
      rotate_left
      · (intro w hSw; have m0 := cell_of_row w g13 0 _ _ _ hSw; have m1 := cell_of_row w g13 1 _ _ _ hSw; have m2 := cell_of_row w g13 2 _ _ _ hSw; have m3 := cell_of_row w g13 3 _ _ _ hSw; have m4 := cell_of_row w g13 4 _ _ _ hSw; go_simp; try with_reducible rfl)
      try simp only [Act.put, List.setIfInBounds_toArray, List.set_cons_zero, List.set_cons_succ]
      refine wpAnyH_take (i := 7) (v := ?_) opAt_7 (by kernel_rfl) (by kernel_rfl) (by kernel_rfl) (fun _ _ _ h => h) (Or.inl ⟨by rfl, ?_⟩) (by assumption) ?_
      rotate_left
      · (intro w hSw; have m0 := cell_of_row w g13 0 _ _ _ hSw; have m1 := cell_of_row w g13 1 _ _ _ hSw; have m2 := cell_of_row w g13 2 _ _ _ hSw; have m3 := cell_of_row w g13 3 _ _ _ hSw; have m4 := cell_of_row w g13 4 _ _ _ hSw; go_simp; try with_reducible rfl)
      try simp only [Act.put, List.setIfInBounds_toArray, List.set_cons_zero, List.set_cons_succ]
      refine wpAnyH_take (i := 8) (v := ?_) opAt_8 (by kernel_rfl) (by kernel_rfl) (by kernel_rfl) (fun _ _ _ h => h) (Or.inl ⟨by rfl, ?_⟩) (by assumption) ?_
      rotate_left
      · (intro w hSw; have m0 := cell_of_row w g13 0 _ _ _ hSw; have m1 := cell_of_row w g13 1 _ _ _ hSw; have m2 := cell_of_row w g13 2 _ _ _ hSw; have m3 := cell_of_row w g13 3 _ _ _ hSw; have m4 := cell_of_row w g13 4 _ _ _ hSw; go_simp; try with_reducible rfl)
      try simp only [Act.put, List.setIfInBounds_toArray, List.set_cons_zero, List.set_cons_succ]
      refine wpAnyH_take (i := 9) (v := ?_) opAt_9 (by kernel_rfl) (by kernel_rfl) (by kernel_rfl) (fun _ _ _ h => h) (Or.inl ⟨by rfl, ?_⟩) (by assumption) ?_
      rotate_left
      · (intro w hSw; have m0 := cell_of_row w g13 0 _ _ _ hSw; have m1 := cell_of_row w g13 1 _ _ _ hSw; have m2 := cell_of_row w g13 2 _ _ _ hSw; have m3 := cell_of_row w g13 3 _ _ _ hSw; have m4 := cell_of_row w g13 4 _ _ _ hSw; go_simp; try with_reducible rfl)
      try simp only [Act.put, List.setIfInBounds_toArray, List.set_cons_zero, List.set_cons_succ]
      refine wpAnyH_take (i := 10) (v := ?_) opAt_10 (by kernel_rfl) (by kernel_rfl) (by kernel_rfl) (fun _ _ _ h => h) (Or.inl ⟨by rfl, ?_⟩) (by assumption) ?_
      rotate_left
      · (intro w hSw; have m0 := cell_of_row w g13 0 _ _ _ hSw; have m1 := cell_of_row w g13 1 _ _ _ hSw; have m2 := cell_of_row w g13 2 _ _ _ hSw; have m3 := cell_of_row w g13 3 _ _ _ hSw; have m4 := cell_of_row w g13 4 _ _ _ hSw; go_simp; try with_reducible rfl)
      try simp only [Act.put, List.setIfInBounds_toArray, List.set_cons_zero, List.set_cons_succ]
      refine wpAnyH_take (i := 11) (v := ?_) opAt_11 (by kernel_rfl) (by kernel_rfl) (by kernel_rfl) (fun _ _ _ h => h) (Or.inl ⟨by rfl, ?_⟩) (by assumption) ?_
      rotate_left
      · (intro w hSw; have m0 := cell_of_row w g13 0 _ _ _ hSw; have m1 := cell_of_row w g13 1 _ _ _ hSw; have m2 := cell_of_row w g13 2 _ _ _ hSw; have m3 := cell_of_row w g13 3 _ _ _ hSw; have m4 := cell_of_row w g13 4 _ _ _ hSw; go_simp; try with_reducible rfl)
      try simp only [Act.put, List.setIfInBounds_toArray, List.set_cons_zero, List.set_cons_succ]
      refine wpAnyH_take (i := 12) (v := ?_) opAt_12 (by kernel_rfl) (by kernel_rfl) (by kernel_rfl) (fun _ _ _ h => h) (Or.inl ⟨by rfl, ?_⟩) (by assumption) ?_
      rotate_left
      · (intro w hSw; have m0 := cell_of_row w g13 0 _ _ _ hSw; have m1 := cell_of_row w g13 1 _ _ _ hSw; have m2 := cell_of_row w g13 2 _ _ _ hSw; have m3 := cell_of_row w g13 3 _ _ _ hSw; have m4 := cell_of_row w g13 4 _ _ _ hSw; go_simp; try with_reducible rfl)
      try simp only [Act.put, List.setIfInBounds_toArray, List.set_cons_zero, List.set_cons_succ]
      refine wpAnyH_take (i := 13) (v := ?_) opAt_13 (by kernel_rfl) (by kernel_rfl) (by kernel_rfl) (fun _ _ _ h => h) (Or.inl ⟨by rfl, ?_⟩) (by assumption) ?_
      rotate_left
      · (intro w hSw; have m0 := cell_of_row w g13 0 _ _ _ hSw; have m1 := cell_of_row w g13 1 _ _ _ hSw; have m2 := cell_of_row w g13 2 _ _ _ hSw; have m3 := cell_of_row w g13 3 _ _ _ hSw; have m4 := cell_of_row w g13 4 _ _ _ hSw; go_simp; try with_reducible rfl)
      try simp only [Act.put, List.setIfInBounds_toArray, List.set_cons_zero, List.set_cons_succ]
      refine wpAnyH_take (i := 14) (v := ?_) opAt_14 (by kernel_rfl) (by kernel_rfl) (by kernel_rfl) (fun _ _ _ h => h) (Or.inl ⟨by rfl, ?_⟩) (by assumption) ?_
      rotate_left
      · (intro w hSw; have m0 := cell_of_row w g13 0 _ _ _ hSw; have m1 := cell_of_row w g13 1 _ _ _ hSw; have m2 := cell_of_row w g13 2 _ _ _ hSw; have m3 := cell_of_row w g13 3 _ _ _ hSw; have m4 := cell_of_row w g13 4 _ _ _ hSw; go_simp; try with_reducible rfl)
      try simp only [Act.put, List.setIfInBounds_toArray, List.set_cons_zero, List.set_cons_succ]
      refine wpAnyH_take (i := 15) (v := ?_) opAt_15 (by kernel_rfl) (by kernel_rfl) (by kernel_rfl) (fun _ _ _ h => h) (Or.inl ⟨by rfl, ?_⟩) (by assumption) ?_
      rotate_left
      · (intro w hSw; have m0 := cell_of_row w g13 0 _ _ _ hSw; have m1 := cell_of_row w g13 1 _ _ _ hSw; have m2 := cell_of_row w g13 2 _ _ _ hSw; have m3 := cell_of_row w g13 3 _ _ _ hSw; have m4 := cell_of_row w g13 4 _ _ _ hSw; go_simp; try with_reducible rfl)
      try simp only [Act.put, List.setIfInBounds_toArray, List.set_cons_zero, List.set_cons_succ]
      refine wpAnyH_take (i := 16) (v := ?_) opAt_16 (by kernel_rfl) (by kernel_rfl) (by kernel_rfl) (fun _ _ _ h => h) (Or.inl ⟨by rfl, ?_⟩) (by assumption) ?_
      rotate_left
      · (intro w hSw; have m0 := cell_of_row w g13 0 _ _ _ hSw; have m1 := cell_of_row w g13 1 _ _ _ hSw; have m2 := cell_of_row w g13 2 _ _ _ hSw; have m3 := cell_of_row w g13 3 _ _ _ hSw; have m4 := cell_of_row w g13 4 _ _ _ hSw; go_simp; try with_reducible rfl)
      try simp only [Act.put, List.setIfInBounds_toArray, List.set_cons_zero, List.set_cons_succ]
      refine wpAnyH_take (i := 17) (v := ?_) opAt_17 (by kernel_rfl) (by kernel_rfl) (by kernel_rfl) (fun _ _ _ h => h) (Or.inl ⟨by rfl, ?_⟩) (by assumption) ?_
      rotate_left
      · (intro w hSw; have m0 := cell_of_row w g13 0 _ _ _ hSw; have m1 := cell_of_row w g13 1 _ _ _ hSw; have m2 := cell_of_row w g13 2 _ _ _ hSw; have m3 := cell_of_row w g13 3 _ _ _ hSw; have m4 := cell_of_row w g13 4 _ _ _ hSw; go_simp; try with_reducible rfl)
      try simp only [Act.put, List.setIfInBounds_toArray, List.set_cons_zero, List.set_cons_succ]
      refine wpAnyH_take (i := 18) (v := ?_) opAt_18 (by kernel_rfl) (by kernel_rfl) (by kernel_rfl) (fun _ _ _ h => h) (Or.inl ⟨by rfl, ?_⟩) (by assumption) ?_
      rotate_left
      · (intro w hSw; have m0 := cell_of_row w g13 0 _ _ _ hSw; have m1 := cell_of_row w g13 1 _ _ _ hSw; have m2 := cell_of_row w g13 2 _ _ _ hSw; have m3 := cell_of_row w g13 3 _ _ _ hSw; have m4 := cell_of_row w g13 4 _ _ _ hSw; go_simp; try with_reducible rfl)
      try simp only [Act.put, List.setIfInBounds_toArray, List.set_cons_zero, List.set_cons_succ]
      refine wpAnyH_take (i := 19) (v := ?_) opAt_19 (by kernel_rfl) (by kernel_rfl) (by kernel_rfl) (fun _ _ _ h => h) (Or.inl ⟨by rfl, ?_⟩) (by assumption) ?_
      rotate_left
      · (intro w hSw; have m0 := cell_of_row w g13 0 _ _ _ hSw; have m1 := cell_of_row w g13 1 _ _ _ hSw; have m2 := cell_of_row w g13 2 _ _ _ hSw; have m3 := cell_of_row w g13 3 _ _ _ hSw; have m4 := cell_of_row w g13 4 _ _ _ hSw; go_simp; try with_reducible rfl)
      try simp only [Act.put, List.setIfInBounds_toArray, List.set_cons_zero, List.set_cons_succ]
      refine wpAnyH_take (i := 20) (v := ?_) opAt_20 (by kernel_rfl) (by kernel_rfl) (by kernel_rfl) (fun _ _ _ h => h) (Or.inl ⟨by rfl, ?_⟩) (by assumption) ?_
      rotate_left
      · (intro w hSw; have m0 := cell_of_row w g13 0 _ _ _ hSw; have m1 := cell_of_row w g13 1 _ _ _ hSw; have m2 := cell_of_row w g13 2 _ _ _ hSw; have m3 := cell_of_row w g13 3 _ _ _ hSw; have m4 := cell_of_row w g13 4 _ _ _ hSw; go_simp; try with_reducible rfl)
      try simp only [Act.put, List.setIfInBounds_toArray, List.set_cons_zero, List.set_cons_succ]
      refine wpAnyH_take (i := 21) (v := ?_) opAt_21 (by kernel_rfl) (by kernel_rfl) (by kernel_rfl) (fun _ _ _ h => h) (Or.inl ⟨by rfl, ?_⟩) (by assumption) ?_
      rotate_left
      · (intro w hSw; have m0 := cell_of_row w g13 0 _ _ _ hSw; have m1 := cell_of_row w g13 1 _ _ _ hSw; have m2 := cell_of_row w g13 2 _ _ _ hSw; have m3 := cell_of_row w g13 3 _ _ _ hSw; have m4 := cell_of_row w g13 4 _ _ _ hSw; go_simp; try with_reducible rfl)
      try simp only [Act.put, List.setIfInBounds_toArray, List.set_cons_zero, List.set_cons_succ]
      refine wpAnyH_take (i := 22) (v := ?_) opAt_22 (by kernel_rfl) (by kernel_rfl) (by kernel_rfl) (fun _ _ _ h => h) (Or.inl ⟨by rfl, ?_⟩) (by assumption) ?_
      rotate_left
      · (intro w hSw; have m0 := cell_of_row w g13 0 _ _ _ hSw; have m1 := cell_of_row w g13 1 _ _ _ hSw; have m2 := cell_of_row w g13 2 _ _ _ hSw; have m3 := cell_of_row w g13 3 _ _ _ hSw; have m4 := cell_of_row w g13 4 _ _ _ hSw; go_simp; try with_reducible rfl)
      try simp only [Act.put, List.setIfInBounds_toArray, List.set_cons_zero, List.set_cons_succ]
      refine wpAnyH_take (i := 23) (v := ?_) opAt_23 (by kernel_rfl) (by kernel_rfl) (by kernel_rfl) (fun _ _ _ h => h) (Or.inl ⟨by rfl, ?_⟩) (by assumption) ?_
      rotate_left
      · (intro w hSw; have m0 := cell_of_row w g13 0 _ _ _ hSw; have m1 := cell_of_row w g13 1 _ _ _ hSw; have m2 := cell_of_row w g13 2 _ _ _ hSw; have m3 := cell_of_row w g13 3 _ _ _ hSw; have m4 := cell_of_row w g13 4 _ _ _ hSw; go_simp; try with_reducible rfl)
      try simp only [Act.put, List.setIfInBounds_toArray, List.set_cons_zero, List.set_cons_succ]
      refine wpAnyH_take (i := 24) (v := ?_) opAt_24 (by kernel_rfl) (by kernel_rfl) (by kernel_rfl) (fun _ _ _ h => h) (Or.inl ⟨by rfl, ?_⟩) (by assumption) ?_
      rotate_left
      · (intro w hSw; have m0 := cell_of_row w g13 0 _ _ _ hSw; have m1 := cell_of_row w g13 1 _ _ _ hSw; have m2 := cell_of_row w g13 2 _ _ _ hSw; have m3 := cell_of_row w g13 3 _ _ _ hSw; have m4 := cell_of_row w g13 4 _ _ _ hSw; go_simp; try with_reducible rfl)
      try simp only [Act.put, List.setIfInBounds_toArray, List.set_cons_zero, List.set_cons_succ]
      refine wpAnyH_take (i := 25) (v := ?_) opAt_25 (by kernel_rfl) (by kernel_rfl) (by kernel_rfl) (fun _ _ _ h => h) (Or.inl ⟨by rfl, ?_⟩) (by assumption) ?_
      rotate_left
      · (intro w hSw; have m0 := cell_of_row w g13 0 _ _ _ hSw; have m1 := cell_of_row w g13 1 _ _ _ hSw; have m2 := cell_of_row w g13 2 _ _ _ hSw; have m3 := cell_of_row w g13 3 _ _ _ hSw; have m4 := cell_of_row w g13 4 _ _ _ hSw; go_simp; try with_reducible rfl)
      try simp only [Act.put, List.setIfInBounds_toArray, List.set_cons_zero, List.set_cons_succ]
      refine wpAnyH_take (i := 26) (v := ?_) opAt_26 (by kernel_rfl) (by kernel_rfl) (by kernel_rfl) (fun _ _ _ h => h) (Or.inl ⟨by rfl, ?_⟩) (by assumption) ?_
      rotate_left
      · (intro w hSw; have m0 := cell_of_row w g13 0 _ _ _ hSw; have m1 := cell_of_row w g13 1 _ _ _ hSw; have m2 := cell_of_row w g13 2 _ _ _ hSw; have m3 := cell_of_row w g13 3 _ _ _ hSw; have m4 := cell_of_row w g13 4 _ _ _ hSw; go_simp; try with_reducible rfl)
      try simp only [Act.put, List.setIfInBounds_toArray, List.set_cons_zero, List.set_cons_succ]
      refine wpAnyH_take (i := 28) (v := ?_) opAt_28 (by kernel_rfl) (by kernel_rfl) (by kernel_rfl) (fun _ _ _ h => h) (Or.inl ⟨by rfl, ?_⟩) (by assumption) ?_
      rotate_left
      · (intro w hSw; have m0 := cell_of_row w g13 0 _ _ _ hSw; have m1 := cell_of_row w g13 1 _ _ _ hSw; have m2 := cell_of_row w g13 2 _ _ _ hSw; have m3 := cell_of_row w g13 3 _ _ _ hSw; have m4 := cell_of_row w g13 4 _ _ _ hSw; go_simp; try with_reducible rfl)
      try simp only [Act.put, List.setIfInBounds_toArray, List.set_cons_zero, List.set_cons_succ]
      refine wpAnyH_ready (rs := [27]) (by kernel_rfl) (by simp) ?_
      refine AllReadyH.cons rfl (fun K hK => ?_) AllReadyH.nil
      go_simp
      refine Calls.mono (HSCS.out V0 hb0) ?_
      rintro e V1 ⟨rfl, nb⟩
      try go_wp2_with fail
      have hb1 : Below W.heap.size W V1 := hb0.trans (nb.mono hb0.size)
      clear nb
      refine hK.out _ _ (HKP.out _ hb1) (fun hHeld => ?_)
      clear hK K
      try simp only [Act.put, List.setIfInBounds_toArray, List.set_cons_zero, List.set_cons_succ]
      refine wpAnyH_ready (rs := [29]) (by kernel_rfl) (by simp) ?_
      refine AllReadyH.cons rfl (fun K hK => ?_) AllReadyH.nil
      go_simp
      refine Calls.mono (HSEL.out V1 (bel11 HBW7.out hb1)) ?_
      rintro e V2 ⟨rfl, nb⟩
      try go_wp2_with fail
      have hb2 : Below W.heap.size W V2 := hb1.trans (nb.mono hb1.size)
      clear nb
      refine hK.out _ _ (HKP.out _ hb2) (fun hHeld => ?_)
      clear hK K
      try simp only [Act.put, List.setIfInBounds_toArray, List.set_cons_zero, List.set_cons_succ]
      refine wpAnyH_take (i := 30) (v := ?_) opAt_30 (by kernel_rfl) (by kernel_rfl) (by kernel_rfl) (fun _ _ _ h => h) (Or.inl ⟨by rfl, ?_⟩) (by assumption) ?_
      rotate_left
      · (intro w hSw; have m0 := cell_of_row w g13 0 _ _ _ hSw; have m1 := cell_of_row w g13 1 _ _ _ hSw; have m2 := cell_of_row w g13 2 _ _ _ hSw; have m3 := cell_of_row w g13 3 _ _ _ hSw; have m4 := cell_of_row w g13 4 _ _ _ hSw; go_simp; try with_reducible rfl)
      try simp only [Act.put, List.setIfInBounds_toArray, List.set_cons_zero, List.set_cons_succ]
      refine wpAnyH_take (i := 31) (v := ?_) opAt_31 (by kernel_rfl) (by kernel_rfl) (by kernel_rfl) (fun _ _ _ h => h) (Or.inl ⟨by rfl, ?_⟩) (by assumption) ?_
      rotate_left
      · (intro w hSw; have m0 := cell_of_row w g13 0 _ _ _ hSw; have m1 := cell_of_row w g13 1 _ _ _ hSw; have m2 := cell_of_row w g13 2 _ _ _ hSw; have m3 := cell_of_row w g13 3 _ _ _ hSw; have m4 := cell_of_row w g13 4 _ _ _ hSw; go_simp; try with_reducible rfl)
      try simp only [Act.put, List.setIfInBounds_toArray, List.set_cons_zero, List.set_cons_succ]
      refine wpAnyH_take (i := 32) (v := ?_) opAt_32 (by kernel_rfl) (by kernel_rfl) (by kernel_rfl) (fun _ _ _ h => h) (Or.inl ⟨by rfl, ?_⟩) (by assumption) ?_
      rotate_left
      · (intro w hSw; have m0 := cell_of_row w g13 0 _ _ _ hSw; have m1 := cell_of_row w g13 1 _ _ _ hSw; have m2 := cell_of_row w g13 2 _ _ _ hSw; have m3 := cell_of_row w g13 3 _ _ _ hSw; have m4 := cell_of_row w g13 4 _ _ _ hSw; go_simp; try with_reducible rfl)
      try simp only [Act.put, List.setIfInBounds_toArray, List.set_cons_zero, List.set_cons_succ]
      refine wpAnyH_take (i := 33) (v := ?_) opAt_33 (by kernel_rfl) (by kernel_rfl) (by kernel_rfl) (fun _ _ _ h => h) (Or.inl ⟨by rfl, ?_⟩) (by assumption) ?_
      rotate_left
      · (intro w hSw; have m0 := cell_of_row w g13 0 _ _ _ hSw; have m1 := cell_of_row w g13 1 _ _ _ hSw; have m2 := cell_of_row w g13 2 _ _ _ hSw; have m3 := cell_of_row w g13 3 _ _ _ hSw; have m4 := cell_of_row w g13 4 _ _ _ hSw; go_simp; try with_reducible rfl)
      try simp only [Act.put, List.setIfInBounds_toArray, List.set_cons_zero, List.set_cons_succ]
      refine wpAnyH_take (i := 34) (v := ?_) opAt_34 (by kernel_rfl) (by kernel_rfl) (by kernel_rfl) (fun _ _ _ h => h) (Or.inl ⟨by rfl, ?_⟩) (by assumption) ?_
      rotate_left
      · (intro w hSw; have m0 := cell_of_row w g13 0 _ _ _ hSw; have m1 := cell_of_row w g13 1 _ _ _ hSw; have m2 := cell_of_row w g13 2 _ _ _ hSw; have m3 := cell_of_row w g13 3 _ _ _ hSw; have m4 := cell_of_row w g13 4 _ _ _ hSw; go_simp; try with_reducible rfl)
      try simp only [Act.put, List.setIfInBounds_toArray, List.set_cons_zero, List.set_cons_succ]
      refine wpAnyH_take (i := 35) (v := ?_) opAt_35 (by kernel_rfl) (by kernel_rfl) (by kernel_rfl) (fun _ _ _ h => h) (Or.inl ⟨by rfl, ?_⟩) (by assumption) ?_
      rotate_left
      · (intro w hSw; have m0 := cell_of_row w g13 0 _ _ _ hSw; have m1 := cell_of_row w g13 1 _ _ _ hSw; have m2 := cell_of_row w g13 2 _ _ _ hSw; have m3 := cell_of_row w g13 3 _ _ _ hSw; have m4 := cell_of_row w g13 4 _ _ _ hSw; go_simp; try with_reducible rfl)
      try simp only [Act.put, List.setIfInBounds_toArray, List.set_cons_zero, List.set_cons_succ]
      refine wpAnyH_ready (rs := [36]) (by kernel_rfl) (by simp) ?_
      refine AllReadyH.cons rfl (fun K hK => ?_) AllReadyH.nil
      go_simp
      refine Calls.mono (HSEL.out V2 (bel11 HBW7.out hb2)) ?_
      rintro e V3 ⟨rfl, nb⟩
      try go_wp2_with fail
      have hb3 : Below W.heap.size W V3 := hb2.trans (nb.mono hb2.size)
      clear nb
      refine hK.out _ _ (HKP.out _ hb3) (fun hHeld => ?_)
      clear hK K
      try simp only [Act.put, List.setIfInBounds_toArray, List.set_cons_zero, List.set_cons_succ]
      refine wpAnyH_take (i := 37) (v := ?_) opAt_37 (by kernel_rfl) (by kernel_rfl) (by kernel_rfl) (fun _ _ _ h => h) (Or.inl ⟨by rfl, ?_⟩) (by assumption) ?_
      rotate_left
      · (intro w hSw; have m0 := cell_of_row w g13 0 _ _ _ hSw; have m1 := cell_of_row w g13 1 _ _ _ hSw; have m2 := cell_of_row w g13 2 _ _ _ hSw; have m3 := cell_of_row w g13 3 _ _ _ hSw; have m4 := cell_of_row w g13 4 _ _ _ hSw; go_simp; try with_reducible rfl)
      try simp only [Act.put, List.setIfInBounds_toArray, List.set_cons_zero, List.set_cons_succ]
      refine wpAnyH_take (i := 38) (v := ?_) opAt_38 (by kernel_rfl) (by kernel_rfl) (by kernel_rfl) (fun _ _ _ h => h) (Or.inl ⟨by rfl, ?_⟩) (by assumption) ?_
      rotate_left
      · (intro w hSw; have m0 := cell_of_row w g13 0 _ _ _ hSw; have m1 := cell_of_row w g13 1 _ _ _ hSw; have m2 := cell_of_row w g13 2 _ _ _ hSw; have m3 := cell_of_row w g13 3 _ _ _ hSw; have m4 := cell_of_row w g13 4 _ _ _ hSw; go_simp; try with_reducible rfl)
      try simp only [Act.put, List.setIfInBounds_toArray, List.set_cons_zero, List.set_cons_succ]
      refine wpAnyH_take (i := 39) (v := ?_) opAt_39 (by kernel_rfl) (by kernel_rfl) (by kernel_rfl) (fun _ _ _ h => h) (Or.inl ⟨by rfl, ?_⟩) (by assumption) ?_
      rotate_left
      · (intro w hSw; have m0 := cell_of_row w g13 0 _ _ _ hSw; have m1 := cell_of_row w g13 1 _ _ _ hSw; have m2 := cell_of_row w g13 2 _ _ _ hSw; have m3 := cell_of_row w g13 3 _ _ _ hSw; have m4 := cell_of_row w g13 4 _ _ _ hSw; go_simp; try with_reducible rfl)
      try simp only [Act.put, List.setIfInBounds_toArray, List.set_cons_zero, List.set_cons_succ]
      refine wpAnyH_take (i := 40) (v := ?_) opAt_40 (by kernel_rfl) (by kernel_rfl) (by kernel_rfl) (fun _ _ _ h => h) (Or.inl ⟨by rfl, ?_⟩) (by assumption) ?_
      rotate_left
      · (intro w hSw; have m0 := cell_of_row w g13 0 _ _ _ hSw; have m1 := cell_of_row w g13 1 _ _ _ hSw; have m2 := cell_of_row w g13 2 _ _ _ hSw; have m3 := cell_of_row w g13 3 _ _ _ hSw; have m4 := cell_of_row w g13 4 _ _ _ hSw; go_simp; try with_reducible rfl)
      try simp only [Act.put, List.setIfInBounds_toArray, List.set_cons_zero, List.set_cons_succ]
      refine wpAnyH_done (by kernel_rfl) ?_ _
      refine NoPanic.normal ?_
      go_wp2_with fail
      go_meet
      case rel => exact ⟨rfl, Lib.hid hb3⟩
  case rest =>
    rename World => Wq
    obtain ⟨rfl, hbq⟩ := hcut
    have HBQ := Lib.hid (bel11 HBW7.out hbq.out)
    have HROW := Lib.hid (own_below HROW4.out HBQ.out (Nat.le_refl _))
    have H18 := Lib.hid (Nat.le_trans H14.out HBQ.out.size)
    have hrec := recs_below (show Recs x4 x1.heap.size (.slice Av L.length cv) L from ⟨_, _, rfl, by rw [← HNN.out]; exact hvc, hvm, HREC4.out⟩) HBQ.out H14.out
    obtain ⟨_, _, he, _, _, hrec⟩ := hrec
    injection he with he1 he2 he3
    subst he1 he3
    have HREC := Lib.hid hrec
    clear hrec he2
    have HOWQ := Lib.hid (And.intro (own_below HOWF.out.1 hbq.out (Nat.le_refl _)) (And.intro (fun x hx => (HOWF.out.2.1 x hx).on hbq.out) HOWF.out.2.2))
    have HK13 := Lib.hid (HKP.out Wq hbq.out)
    have HRX := Lib.hid (show ∀ V, Below Wq.heap.size Wq V → ∀ (G' : Nat) (x : S), SegIn Wq G' A M R s x → x.id = id → x.size = z → ∀ (i : Nat) (r : Rc.Rec), L[i]? = some r → Calls Tryz.prog 15 #[.pointer (some ⟨G', 0, none⟩), .agg #[.int .u32 (id : Int), .int .u32 (Sg.offN L i : Int)]] V fun e w' => ∃ rv, e = .returned (.tuple #[rv, .int .i64 0]) ∧ RecT w' rv r ∧ Below V.heap.size V w' from fun V hV G' x hs hxi hxz i r hr => by
      have hq := read_num (id := id) HL.out hr
      rw [← HNN.out, ← HZ.out] at hq
      have := rd_num (x := x) (L := L) ⟨hs.1.on hV, hs.2.1.on hV, hs.2.2⟩ (HCx.out.below ((bel11 HBQ.out hV).mono H14.out)) (Nat.le_trans H18.out hV.size) (by rw [hxi]; exact HI.out) HL.out (by rw [hxz, HZ.out, ← HNN.out]) HL4.out.2.1 (by omega) (by rw [hxi]; exact HL4.out.1) (by rw [HL4.out.2.2.1, HL4.out.2.2.2, hxz]) hr (by rw [HL4.out.2.2.1, hxz]; exact hq)
      rw [hxi] at this
      exact this)
    have HSX := Lib.hid (show SegIn Wq G A M R s ⟨id, z, n, fi, n, 0⟩ from ⟨HS4.out.1.on HBQ.out, HS4.out.2.1.on HBQ.out, HS4.out.2.2⟩)
    have hb6q : Below x6.heap.size x6 Wq := bel11 HB6W.out hbq.out
    have HSY := Lib.hid (show SegIn Wq G2 A M R s ⟨id, z, n, fi, n, n⟩ from ⟨HY6.out.1.on hb6q, HY6.out.2.1.on hb6q, HY6.out.2.2⟩)
    have HBWQ := Lib.hid (show Below w.heap.size w Wq from bel11 HB1.out (HB4.out.trans (HBQ.out.mono H14.out)))
    have HB0 := Lib.hid (Below.refl Wq.heap.size Wq)
    clear hbq hb6q HW HKP HSCS HSVW HOWF HBW7 HB7 HY6 HS4 HROW4 HREC4 HSV HB6 HB5
    go_wp2_with fail
    go_loopw [109] (fun iv wr => ∃ j : Nat, iv = .int .i64 (j : Int) ∧ j ≤ n ∧ Hid (Below Wq.heap.size Wq wr)) (fun iv _ => n - (RowKit.intOf iv).toNat)
    case atStart => exact ⟨0, rfl, Nat.zero_le _, HB0⟩
    case round =>
      as_aux_lemma =>
        obtain ⟨j, rfl, hj, hh⟩ := hrel
        rename World => wr
        by_cases hjn : j < n
        · obtain ⟨r, hr⟩ : ∃ r, L[j]? = some r := ⟨_, List.getElem?_eq_getElem (by rw [← HNN.out]; exact hjn)⟩
          obtain ⟨b, o, rfl, hbB, kv, vv, e0, e1, e2, e3, e4, e5, hk, hw, hfit⟩ := HREC.out j r hr
          have hk0 := hk
          have hw0 := hw
          obtain ⟨K1, k1', rfl, _, _⟩ := hk0
          obtain ⟨K2, k2', rfl, _, _⟩ := hw0
          obtain ⟨n1, hn1⟩ : ∃ n1, n1 = r.key.length := ⟨_, rfl⟩
          obtain ⟨n2, hn2⟩ : ∃ n2, n2 = r.val.length := ⟨_, rfl⟩
          rw [← hn1] at hk e2
          rw [← hn2] at hw e3
          have hb := hh.out
          have hbx : b < Wq.heap.size := by have := H18.out; omega
          have y0 := (hb.cell (p := ⟨b, o + j * 6, none⟩) hbx).trans e0
          have y1 := (hb.cell (p := ⟨b, o + j * 6 + 1, none⟩) hbx).trans e1
          have y2 := (hb.cell (p := ⟨b, o + j * 6 + 2, none⟩) hbx).trans e2
          have y3 := (hb.cell (p := ⟨b, o + j * 6 + 3, none⟩) hbx).trans e3
          have y4 := (hb.cell (p := ⟨b, o + j * 6 + 4, none⟩) hbx).trans e4
          have y5 := (hb.cell (p := ⟨b, o + j * 6 + 5, none⟩) hbx).trans e5
          obtain ⟨gr, hgr⟩ : ∃ g, wr.heap.size = g := ⟨_, rfl⟩
          obtain ⟨W1, hW1⟩ : ∃ V, wr.alloc (.cells #[.int .u64 r.seq, .int .i64 r.kind, .slice K1 n1 k1', .slice K2 n2 k2', .int .u32 r.seg, .int .u32 r.off] 51) = V := ⟨_, rfl⟩
          have hbW : Below wr.heap.size wr W1 := by rw [← hW1]; exact al11 _ _
          have hbW1 := bel11 hb hbW
          have HK1 := Lib.hid (show W1.heap[gr]? = some (.cells #[.int .u64 r.seq, .int .i64 r.kind, .slice K1 n1 k1', .slice K2 n2 k2', .int .u32 r.seg, .int .u32 r.off] 51 (0, 0)) from by rw [← hW1, ← hgr]; exact heap_alloc_new wr _)
          have HRV := Lib.hid (show RecV W1 x1.heap.size (recV r.seq r.kind (.slice K1 n1 k1') (.slice K2 n2 k2') r.seg r.off) r from ⟨_, _, rfl, hk.below hbW1 H18.out, hw.below hbW1 H18.out⟩)
          have hrow := own_below HROW.out hbW1 (Nat.le_refl _)
          obtain ⟨gl, rfl, hgl⟩ := Sc.own_at hrow (by omega)
          obtain ⟨t0, t1⟩ := loc_cells hrow hjn
          obtain ⟨oj, hoj⟩ : ∃ oj, oj = Sg.offN L j := ⟨_, rfl⟩
          rw [← hoj] at t1
          have HOJ := Lib.hid hoj
          have HR1 := Lib.hid hr
          have HBW1 := Lib.hid hbW1
          clear e0 e1 e2 e3 e4 e5 hk hw hb hbx hfit hbW hbW1 hrow hn1 hn2 hoj hr hbB
          obtain ⟨sq, hsq⟩ : ∃ q, q = r.seq := ⟨_, rfl⟩
          obtain ⟨kd, hkd⟩ : ∃ q, q = r.kind := ⟨_, rfl⟩
          obtain ⟨sg, hsg⟩ : ∃ q, q = r.seg := ⟨_, rfl⟩
          obtain ⟨of, hof⟩ : ∃ q, q = r.off := ⟨_, rfl⟩
          rw [← hsq] at y0 hW1 HK1 HRV
          rw [← hkd] at y1 hW1 HK1 HRV
          rw [← hsg] at y4 hW1 HK1 HRV
          rw [← hof] at y5 hW1 HK1 HRV
          have HLT := Lib.hid (And.intro hsq (And.intro hkd (And.intro hsg hof)))
          have HC := Lib.hid (HRX.out W1 HBW1.out G _ HSX.out rfl rfl j r HR1.out)
          rw [← HOJ.out] at HC
          clear hsq hkd hsg hof
          go_wp2_with fail
          refine HC.out.mono ?_
          rintro e W2 ⟨rv, rfl, ⟨A1, na1, ca1, A2, na2, ca2, rfl, hrv⟩, hb2⟩
          rw [← HLT.out.1, ← HLT.out.2.1, ← HLT.out.2.2.1, ← HLT.out.2.2.2] at hrv ⊢
          unfold recV
          obtain ⟨ga, hga⟩ : ∃ g, W2.heap.size = g := ⟨_, rfl⟩
          obtain ⟨W3, hW3⟩ : ∃ V, W2.alloc (.cells #[.int .u64 sq, .int .i64 kd, .slice A1 na1 ca1, .slice A2 na2 ca2, .int .u32 sg, .int .u32 of] 51) = V := ⟨_, rfl⟩
          have hb3 : Below W2.heap.size W2 W3 := by rw [← hW3]; exact al11 _ _
          have hb13 := bel11 hb2 hb3
          have HKA := Lib.hid (show W3.heap[ga]? = some (.cells #[.int .u64 sq, .int .i64 kd, .slice A1 na1 ca1, .slice A2 na2 ca2, .int .u32 sg, .int .u32 of] 51 (0, 0)) from by rw [← hW3, ← hga]; exact heap_alloc_new W2 _)
          have HKR := Lib.hid (blk11 HK1.out hb13)
          have HRA := Lib.hid (show RecV W3 W3.heap.size (recV sq kd (.slice A1 na1 ca1) (.slice A2 na2 ca2) sg of) r from (hrv.below hb3 (Nat.le_refl _)).mono hb3.size)
          have HRR := Lib.hid (HRV.out.below hb13 (Nat.le_trans H18.out HBW1.out.size))
          have HB3 := Lib.hid (bel11 HBW1.out hb13)
          have HC := Lib.hid (HRX.out W3 HB3.out G2 _ HSY.out rfl rfl j r HR1.out)
          rw [← HOJ.out] at HC
          have t0 := (hb13.cell (fblock_of_cell t0)).trans t0
          have t1 := (hb13.cell (fblock_of_cell t1)).trans t1
          clear hrv hb2 hb3 hb13 HK1 HRV
          go_wp2_with fail
          refine HC.out.mono ?_
          rintro e W4 ⟨rv, rfl, ⟨B1, nb1, cb1, B2, nb2, cb2, rfl, hrv⟩, hb2⟩
          rw [← HLT.out.1, ← HLT.out.2.1, ← HLT.out.2.2.1, ← HLT.out.2.2.2] at hrv ⊢
          unfold recV
          obtain ⟨gb, hgb⟩ : ∃ g, W4.heap.size = g := ⟨_, rfl⟩
          obtain ⟨W5, hW5⟩ : ∃ V, W4.alloc (.cells #[.int .u64 sq, .int .i64 kd, .slice B1 nb1 cb1, .slice B2 nb2 cb2, .int .u32 sg, .int .u32 of] 51) = V := ⟨_, rfl⟩
          have hb3 : Below W4.heap.size W4 W5 := by rw [← hW5]; exact al11 _ _
          have hb35 := bel11 hb2 hb3
          have hkb : W5.heap[gb]? = some (.cells #[.int .u64 sq, .int .i64 kd, .slice B1 nb1 cb1, .slice B2 nb2 cb2, .int .u32 sg, .int .u32 of] 51 (0, 0)) := by rw [← hW5, ← hgb]; exact heap_alloc_new W4 _
          have hka := blk11 HKA.out hb35
          have hkr := blk11 HKR.out hb35
          have HB5 := Lib.hid (bel11 HB3.out hb35)
          have hk13 := blk11 HK13.out HB5.out
          have t0 := (hb35.cell (fblock_of_cell t0)).trans t0
          have t1 := (hb35.cell (fblock_of_cell t1)).trans t1
          have HRB5 := Lib.hid (show RecV W5 W5.heap.size (recV sq kd (.slice B1 nb1 cb1) (.slice B2 nb2 cb2) sg of) r from (hrv.below hb3 (Nat.le_refl _)).mono hb3.size)
          have HRA5 := Lib.hid ((HRA.out.below hb35 (Nat.le_refl _)).mono hb35.size)
          have HRR5 := Lib.hid ((HRR.out.below hb35 (Nat.le_trans H18.out HB3.out.size)).mono (Nat.le_trans H18.out HB5.out.size))
          obtain ⟨gF, Ak, nk, ck, Aw, nv, cw, rfl, hgF, c0, c1, c2, c3, c4, c5, c6, c7, c8, hbk, hbv⟩ := found_cells11 HOWQ.out.1 HOWQ.out.2.1 HOWQ.out.2.2 (by omega) (Sc.places_endN HR1.out)
          dsimp only at c1 c2 c3 c4 c7 c8 hbk hbv
          obtain ⟨zi, hzi⟩ : ∃ oi, oi = Rc.sizeN r := ⟨_, rfl⟩
          rw [← off_end, ← HOJ.out] at c1
          rw [← hzi] at c2
          rw [← HLT.out.1] at c3
          rw [← HLT.out.2.1] at c4
          rw [← HLT.out.2.2.1] at c7
          rw [← HLT.out.2.2.2] at c8
          have hb := HB5.out
          have c0 := (hb.cell (fblock_of_cell c0)).trans c0
          have c1 := (hb.cell (fblock_of_cell c1)).trans c1
          have c2 := (hb.cell (fblock_of_cell c2)).trans c2
          have c3 := (hb.cell (fblock_of_cell c3)).trans c3
          have c4 := (hb.cell (fblock_of_cell c4)).trans c4
          have c5 := (hb.cell (fblock_of_cell c5)).trans c5
          have c6 := (hb.cell (fblock_of_cell c6)).trans c6
          have c7 := (hb.cell (fblock_of_cell c7)).trans c7
          have c8 := (hb.cell (fblock_of_cell c8)).trans c8
          have HRF5 := Lib.hid (show RecV W5 W5.heap.size (recV sq kd (.slice Ak nk ck) (.slice Aw nv cw) sg of) r from by
            rw [HLT.out.1, HLT.out.2.1, HLT.out.2.2.1, HLT.out.2.2.2]
            exact ⟨_, _, rfl, (hbk.below hb (Nat.le_refl _)).mono hb.size, (hbv.below hb (Nat.le_refl _)).mono hb.size⟩)
          have HSA := Lib.hid (show ∀ V : World, Below W5.heap.size W5 V → ∀ v, RecV W5 W5.heap.size v r → Calls Tryz.prog 16 #[v, .agg #[.int .u64 sq, .int .i64 kd, .slice K1 n1 k1', .slice K2 n2 k2', .int .u32 sg, .int .u32 of]] V fun e w' => e = .returned (.bool true) ∧ Below V.heap.size V w' from fun V hV v hv => same_t (r := r) ((hv.below hV (Nat.le_refl _)).mono hV.size) ((HRR5.out.below hV (Nat.le_refl _)).mono hV.size))
          have HKP := Lib.hid (show ∀ V : World, Below W5.heap.size W5 V → (V.heap[g13]? = some (.cells #[.int .u32 (id : Int), .slice (some ⟨gF, 0, none⟩) n cf, .slice Ap 0 cp, .int .i64 (z : Int), .int .i64 0] 44 (0, 0)) ∧ V.heap[gr]? = some (.cells #[.int .u64 sq, .int .i64 kd, .slice K1 n1 k1', .slice K2 n2 k2', .int .u32 sg, .int .u32 of] 51 (0, 0)) ∧ V.heap[ga]? = some (.cells #[.int .u64 sq, .int .i64 kd, .slice A1 na1 ca1, .slice A2 na2 ca2, .int .u32 sg, .int .u32 of] 51 (0, 0)) ∧ V.heap[gb]? = some (.cells #[.int .u64 sq, .int .i64 kd, .slice B1 nb1 cb1, .slice B2 nb2 cb2, .int .u32 sg, .int .u32 of] 51 (0, 0)) ∧ V.cell? ⟨gl, j * 2, none⟩ = some (.int .u32 (id : Int)) ∧ V.cell? ⟨gl, j * 2 + 1, none⟩ = some (.int .u32 (oj : Int)) ∧ V.cell? ⟨gF, j * 9, none⟩ = some (.int .u32 (id : Int)) ∧ V.cell? ⟨gF, j * 9 + 1, none⟩ = some (.int .u32 (oj : Int)) ∧ V.cell? ⟨gF, j * 9 + 2, none⟩ = some (.int .i64 (zi : Int)) ∧ V.cell? ⟨gF, j * 9 + 3, none⟩ = some (.int .u64 sq) ∧ V.cell? ⟨gF, j * 9 + 4, none⟩ = some (.int .i64 kd) ∧ V.cell? ⟨gF, j * 9 + 5, none⟩ = some (.slice Ak nk ck) ∧ V.cell? ⟨gF, j * 9 + 6, none⟩ = some (.slice Aw nv cw) ∧ V.cell? ⟨gF, j * 9 + 7, none⟩ = some (.int .u32 sg) ∧ V.cell? ⟨gF, j * 9 + 8, none⟩ = some (.int .u32 of)) from fun V hV => ⟨blk11 hk13 hV, blk11 hkr hV, blk11 hka hV, blk11 hkb hV, (hV.cell (fblock_of_cell t0)).trans t0, (hV.cell (fblock_of_cell t1)).trans t1, (hV.cell (fblock_of_cell c0)).trans c0, (hV.cell (fblock_of_cell c1)).trans c1, (hV.cell (fblock_of_cell c2)).trans c2, (hV.cell (fblock_of_cell c3)).trans c3, (hV.cell (fblock_of_cell c4)).trans c4, (hV.cell (fblock_of_cell c5)).trans c5, (hV.cell (fblock_of_cell c6)).trans c6, (hV.cell (fblock_of_cell c7)).trans c7, (hV.cell (fblock_of_cell c8)).trans c8⟩)
          clear hrv hb2 hb3 hb35 hkb hka hkr hk13 t0 t1 c0 c1 c2 c3 c4 c5 c6 c7 c8 hb hbk hbv hgF hzi HKA HKR HRA HRR y0 y1 y2 y3 y4 y5 hgl
          go_upto_region 17 with fail
          go_cut [173] from 132 to 172 (fun s173 wx => s173 = .bool false ∧ Hid (Below W5.heap.size W5 wx))
          case first =>
            as_aux_lemma =>
              refine wp_region_noPanic ?_
              have hb0 : Below W5.heap.size W5 W5.drew := (Below.refl _ _).drew
              refine wp_region_held_drew (S := fun V : World => V.heap[g13]? = some (.cells #[.int .u32 (id : Int), .slice (some ⟨gF, 0, none⟩) n cf, .slice Ap 0 cp, .int .i64 (z : Int), .int .i64 0] 44 (0, 0)) ∧ V.heap[gr]? = some (.cells #[.int .u64 sq, .int .i64 kd, .slice K1 n1 k1', .slice K2 n2 k2', .int .u32 sg, .int .u32 of] 51 (0, 0)) ∧ V.heap[ga]? = some (.cells #[.int .u64 sq, .int .i64 kd, .slice A1 na1 ca1, .slice A2 na2 ca2, .int .u32 sg, .int .u32 of] 51 (0, 0)) ∧ V.heap[gb]? = some (.cells #[.int .u64 sq, .int .i64 kd, .slice B1 nb1 cb1, .slice B2 nb2 cb2, .int .u32 sg, .int .u32 of] 51 (0, 0)) ∧ V.cell? ⟨gl, j * 2, none⟩ = some (.int .u32 (id : Int)) ∧ V.cell? ⟨gl, j * 2 + 1, none⟩ = some (.int .u32 (oj : Int)) ∧ V.cell? ⟨gF, j * 9, none⟩ = some (.int .u32 (id : Int)) ∧ V.cell? ⟨gF, j * 9 + 1, none⟩ = some (.int .u32 (oj : Int)) ∧ V.cell? ⟨gF, j * 9 + 2, none⟩ = some (.int .i64 (zi : Int)) ∧ V.cell? ⟨gF, j * 9 + 3, none⟩ = some (.int .u64 sq) ∧ V.cell? ⟨gF, j * 9 + 4, none⟩ = some (.int .i64 kd) ∧ V.cell? ⟨gF, j * 9 + 5, none⟩ = some (.slice Ak nk ck) ∧ V.cell? ⟨gF, j * 9 + 6, none⟩ = some (.slice Aw nv cw) ∧ V.cell? ⟨gF, j * 9 + 7, none⟩ = some (.int .u32 sg) ∧ V.cell? ⟨gF, j * 9 + 8, none⟩ = some (.int .u32 of)) (by kernel_rfl) (HKP.out _ hb0) (fun hHeld => ?_)
              generalize World.drew W5 = V0 at *
              refine wpAnyH_take (i := 0) (v := ?_) opAt_0 (by kernel_rfl) (by kernel_rfl) (by kernel_rfl) (fun _ _ _ h => h) (Or.inl ⟨by rfl, ?_⟩) (by assumption) ?_
              rotate_left
              · (intro w hSw; obtain ⟨h13, hr_, ha_, hb_, t0, t1, c0, c1, c2, c3, c4, c5, c6, c7, c8⟩ := hSw; have s0 := cell_of_row w g13 0 _ _ _ h13; have s1 := cell_of_row w g13 1 _ _ _ h13; have s2 := cell_of_row w g13 2 _ _ _ h13; have s3 := cell_of_row w g13 3 _ _ _ h13; have s4 := cell_of_row w g13 4 _ _ _ h13; obtain ⟨p0, p1, p2, p3, p4, p5⟩ := Sg.box6 hr_; obtain ⟨q0, q1, q2, q3, q4, q5⟩ := Sg.box6 ha_; obtain ⟨u0, u1, u2, u3, u4, u5⟩ := Sg.box6 hb_; go_simp; try with_reducible rfl)
              try simp only [Act.put, List.setIfInBounds_toArray, List.set_cons_zero, List.set_cons_succ]
              refine wpAnyH_take (i := 1) (v := ?_) opAt_1 (by kernel_rfl) (by kernel_rfl) (by kernel_rfl) (fun _ _ _ h => h) (Or.inl ⟨by rfl, ?_⟩) (by assumption) ?_
              rotate_left
              · (intro w hSw; obtain ⟨h13, hr_, ha_, hb_, t0, t1, c0, c1, c2, c3, c4, c5, c6, c7, c8⟩ := hSw; have s0 := cell_of_row w g13 0 _ _ _ h13; have s1 := cell_of_row w g13 1 _ _ _ h13; have s2 := cell_of_row w g13 2 _ _ _ h13; have s3 := cell_of_row w g13 3 _ _ _ h13; have s4 := cell_of_row w g13 4 _ _ _ h13; obtain ⟨p0, p1, p2, p3, p4, p5⟩ := Sg.box6 hr_; obtain ⟨q0, q1, q2, q3, q4, q5⟩ := Sg.box6 ha_; obtain ⟨u0, u1, u2, u3, u4, u5⟩ := Sg.box6 hb_; go_simp; try with_reducible rfl)
              try simp only [Act.put, List.setIfInBounds_toArray, List.set_cons_zero, List.set_cons_succ]
              refine wpAnyH_take (i := 2) (v := ?_) opAt_2 (by kernel_rfl) (by kernel_rfl) (by kernel_rfl) (fun _ _ _ h => h) (Or.inl ⟨by rfl, ?_⟩) (by assumption) ?_
              rotate_left
              · (intro w hSw; obtain ⟨h13, hr_, ha_, hb_, t0, t1, c0, c1, c2, c3, c4, c5, c6, c7, c8⟩ := hSw; have s0 := cell_of_row w g13 0 _ _ _ h13; have s1 := cell_of_row w g13 1 _ _ _ h13; have s2 := cell_of_row w g13 2 _ _ _ h13; have s3 := cell_of_row w g13 3 _ _ _ h13; have s4 := cell_of_row w g13 4 _ _ _ h13; obtain ⟨p0, p1, p2, p3, p4, p5⟩ := Sg.box6 hr_; obtain ⟨q0, q1, q2, q3, q4, q5⟩ := Sg.box6 ha_; obtain ⟨u0, u1, u2, u3, u4, u5⟩ := Sg.box6 hb_; go_simp; try with_reducible rfl)
              try simp only [Act.put, List.setIfInBounds_toArray, List.set_cons_zero, List.set_cons_succ]
              refine wpAnyH_take (i := 3) (v := ?_) opAt_3 (by kernel_rfl) (by kernel_rfl) (by kernel_rfl) (fun _ _ _ h => h) (Or.inl ⟨by rfl, ?_⟩) (by assumption) ?_
              rotate_left
              · (intro w hSw; obtain ⟨h13, hr_, ha_, hb_, t0, t1, c0, c1, c2, c3, c4, c5, c6, c7, c8⟩ := hSw; have s0 := cell_of_row w g13 0 _ _ _ h13; have s1 := cell_of_row w g13 1 _ _ _ h13; have s2 := cell_of_row w g13 2 _ _ _ h13; have s3 := cell_of_row w g13 3 _ _ _ h13; have s4 := cell_of_row w g13 4 _ _ _ h13; obtain ⟨p0, p1, p2, p3, p4, p5⟩ := Sg.box6 hr_; obtain ⟨q0, q1, q2, q3, q4, q5⟩ := Sg.box6 ha_; obtain ⟨u0, u1, u2, u3, u4, u5⟩ := Sg.box6 hb_; go_simp; try with_reducible rfl)
              try simp only [Act.put, List.setIfInBounds_toArray, List.set_cons_zero, List.set_cons_succ]
              refine wpAnyH_take (i := 4) (v := ?_) opAt_4 (by kernel_rfl) (by kernel_rfl) (by kernel_rfl) (fun _ _ _ h => h) (Or.inl ⟨by rfl, ?_⟩) (by assumption) ?_
              rotate_left
              · (intro w hSw; obtain ⟨h13, hr_, ha_, hb_, t0, t1, c0, c1, c2, c3, c4, c5, c6, c7, c8⟩ := hSw; have s0 := cell_of_row w g13 0 _ _ _ h13; have s1 := cell_of_row w g13 1 _ _ _ h13; have s2 := cell_of_row w g13 2 _ _ _ h13; have s3 := cell_of_row w g13 3 _ _ _ h13; have s4 := cell_of_row w g13 4 _ _ _ h13; obtain ⟨p0, p1, p2, p3, p4, p5⟩ := Sg.box6 hr_; obtain ⟨q0, q1, q2, q3, q4, q5⟩ := Sg.box6 ha_; obtain ⟨u0, u1, u2, u3, u4, u5⟩ := Sg.box6 hb_; go_simp; try with_reducible rfl)
              try simp only [Act.put, List.setIfInBounds_toArray, List.set_cons_zero, List.set_cons_succ]
              refine wpAnyH_take (i := 5) (v := ?_) opAt_5 (by kernel_rfl) (by kernel_rfl) (by kernel_rfl) (fun _ _ _ h => h) (Or.inl ⟨by rfl, ?_⟩) (by assumption) ?_
              rotate_left
              · (intro w hSw; obtain ⟨h13, hr_, ha_, hb_, t0, t1, c0, c1, c2, c3, c4, c5, c6, c7, c8⟩ := hSw; have s0 := cell_of_row w g13 0 _ _ _ h13; have s1 := cell_of_row w g13 1 _ _ _ h13; have s2 := cell_of_row w g13 2 _ _ _ h13; have s3 := cell_of_row w g13 3 _ _ _ h13; have s4 := cell_of_row w g13 4 _ _ _ h13; obtain ⟨p0, p1, p2, p3, p4, p5⟩ := Sg.box6 hr_; obtain ⟨q0, q1, q2, q3, q4, q5⟩ := Sg.box6 ha_; obtain ⟨u0, u1, u2, u3, u4, u5⟩ := Sg.box6 hb_; go_simp; try with_reducible rfl)
              try simp only [Act.put, List.setIfInBounds_toArray, List.set_cons_zero, List.set_cons_succ]
              refine wpAnyH_take (i := 6) (v := ?_) opAt_6 (by kernel_rfl) (by kernel_rfl) (by kernel_rfl) (fun _ _ _ h => h) (Or.inl ⟨by rfl, ?_⟩) (by assumption) ?_
              rotate_left
              · (intro w hSw; obtain ⟨h13, hr_, ha_, hb_, t0, t1, c0, c1, c2, c3, c4, c5, c6, c7, c8⟩ := hSw; have s0 := cell_of_row w g13 0 _ _ _ h13; have s1 := cell_of_row w g13 1 _ _ _ h13; have s2 := cell_of_row w g13 2 _ _ _ h13; have s3 := cell_of_row w g13 3 _ _ _ h13; have s4 := cell_of_row w g13 4 _ _ _ h13; obtain ⟨p0, p1, p2, p3, p4, p5⟩ := Sg.box6 hr_; obtain ⟨q0, q1, q2, q3, q4, q5⟩ := Sg.box6 ha_; obtain ⟨u0, u1, u2, u3, u4, u5⟩ := Sg.box6 hb_; go_simp; try with_reducible rfl)
              try simp only [Act.put, List.setIfInBounds_toArray, List.set_cons_zero, List.set_cons_succ]
              refine wpAnyH_take (i := 7) (v := ?_) opAt_7 (by kernel_rfl) (by kernel_rfl) (by kernel_rfl) (fun _ _ _ h => h) (Or.inl ⟨by rfl, ?_⟩) (by assumption) ?_
              rotate_left
              · (intro w hSw; obtain ⟨h13, hr_, ha_, hb_, t0, t1, c0, c1, c2, c3, c4, c5, c6, c7, c8⟩ := hSw; have s0 := cell_of_row w g13 0 _ _ _ h13; have s1 := cell_of_row w g13 1 _ _ _ h13; have s2 := cell_of_row w g13 2 _ _ _ h13; have s3 := cell_of_row w g13 3 _ _ _ h13; have s4 := cell_of_row w g13 4 _ _ _ h13; obtain ⟨p0, p1, p2, p3, p4, p5⟩ := Sg.box6 hr_; obtain ⟨q0, q1, q2, q3, q4, q5⟩ := Sg.box6 ha_; obtain ⟨u0, u1, u2, u3, u4, u5⟩ := Sg.box6 hb_; go_simp; try with_reducible rfl)
              try simp only [Act.put, List.setIfInBounds_toArray, List.set_cons_zero, List.set_cons_succ]
              refine wpAnyH_take (i := 8) (v := ?_) opAt_8 (by kernel_rfl) (by kernel_rfl) (by kernel_rfl) (fun _ _ _ h => h) (Or.inl ⟨by rfl, ?_⟩) (by assumption) ?_
              rotate_left
              · (intro w hSw; obtain ⟨h13, hr_, ha_, hb_, t0, t1, c0, c1, c2, c3, c4, c5, c6, c7, c8⟩ := hSw; have s0 := cell_of_row w g13 0 _ _ _ h13; have s1 := cell_of_row w g13 1 _ _ _ h13; have s2 := cell_of_row w g13 2 _ _ _ h13; have s3 := cell_of_row w g13 3 _ _ _ h13; have s4 := cell_of_row w g13 4 _ _ _ h13; obtain ⟨p0, p1, p2, p3, p4, p5⟩ := Sg.box6 hr_; obtain ⟨q0, q1, q2, q3, q4, q5⟩ := Sg.box6 ha_; obtain ⟨u0, u1, u2, u3, u4, u5⟩ := Sg.box6 hb_; go_simp; try with_reducible rfl)
              try simp only [Act.put, List.setIfInBounds_toArray, List.set_cons_zero, List.set_cons_succ]
              refine wpAnyH_ready (rs := [9]) (by kernel_rfl) (by simp) ?_
              refine AllReadyH.cons rfl (fun K hK => ?_) AllReadyH.nil
              go_simp
              refine Calls.mono (HSA.out V0 hb0 _ HRA5.out) ?_
              rintro e V1 ⟨rfl, nb⟩
              try go_wp2_with fail
              have hb1 : Below W5.heap.size W5 V1 := hb0.trans (nb.mono hb0.size)
              clear nb
              refine hK.out _ _ (HKP.out _ hb1) (fun hHeld => ?_)
              clear hK K
              try simp only [Act.put, List.setIfInBounds_toArray, List.set_cons_zero, List.set_cons_succ]
              refine wpAnyH_take (i := 10) (v := ?_) opAt_10 (by kernel_rfl) (by kernel_rfl) (by kernel_rfl) (fun _ _ _ h => h) (Or.inl ⟨by rfl, ?_⟩) (by assumption) ?_
              rotate_left
              · (intro w hSw; obtain ⟨h13, hr_, ha_, hb_, t0, t1, c0, c1, c2, c3, c4, c5, c6, c7, c8⟩ := hSw; have s0 := cell_of_row w g13 0 _ _ _ h13; have s1 := cell_of_row w g13 1 _ _ _ h13; have s2 := cell_of_row w g13 2 _ _ _ h13; have s3 := cell_of_row w g13 3 _ _ _ h13; have s4 := cell_of_row w g13 4 _ _ _ h13; obtain ⟨p0, p1, p2, p3, p4, p5⟩ := Sg.box6 hr_; obtain ⟨q0, q1, q2, q3, q4, q5⟩ := Sg.box6 ha_; obtain ⟨u0, u1, u2, u3, u4, u5⟩ := Sg.box6 hb_; go_simp; try with_reducible rfl)
              try simp only [Act.put, List.setIfInBounds_toArray, List.set_cons_zero, List.set_cons_succ]
              refine wpAnyH_take (i := 11) (v := ?_) opAt_11 (by kernel_rfl) (by kernel_rfl) (by kernel_rfl) (fun _ _ _ h => h) (Or.inl ⟨by rfl, ?_⟩) (by assumption) ?_
              rotate_left
              · (intro w hSw; obtain ⟨h13, hr_, ha_, hb_, t0, t1, c0, c1, c2, c3, c4, c5, c6, c7, c8⟩ := hSw; have s0 := cell_of_row w g13 0 _ _ _ h13; have s1 := cell_of_row w g13 1 _ _ _ h13; have s2 := cell_of_row w g13 2 _ _ _ h13; have s3 := cell_of_row w g13 3 _ _ _ h13; have s4 := cell_of_row w g13 4 _ _ _ h13; obtain ⟨p0, p1, p2, p3, p4, p5⟩ := Sg.box6 hr_; obtain ⟨q0, q1, q2, q3, q4, q5⟩ := Sg.box6 ha_; obtain ⟨u0, u1, u2, u3, u4, u5⟩ := Sg.box6 hb_; go_simp; try with_reducible rfl)
              try simp only [Act.put, List.setIfInBounds_toArray, List.set_cons_zero, List.set_cons_succ]
              refine wpAnyH_take (i := 12) (v := ?_) opAt_12 (by kernel_rfl) (by kernel_rfl) (by kernel_rfl) (fun _ _ _ h => h) (Or.inl ⟨by rfl, ?_⟩) (by assumption) ?_
              rotate_left
              · (intro w hSw; obtain ⟨h13, hr_, ha_, hb_, t0, t1, c0, c1, c2, c3, c4, c5, c6, c7, c8⟩ := hSw; have s0 := cell_of_row w g13 0 _ _ _ h13; have s1 := cell_of_row w g13 1 _ _ _ h13; have s2 := cell_of_row w g13 2 _ _ _ h13; have s3 := cell_of_row w g13 3 _ _ _ h13; have s4 := cell_of_row w g13 4 _ _ _ h13; obtain ⟨p0, p1, p2, p3, p4, p5⟩ := Sg.box6 hr_; obtain ⟨q0, q1, q2, q3, q4, q5⟩ := Sg.box6 ha_; obtain ⟨u0, u1, u2, u3, u4, u5⟩ := Sg.box6 hb_; go_simp; try with_reducible rfl)
              try simp only [Act.put, List.setIfInBounds_toArray, List.set_cons_zero, List.set_cons_succ]
              refine wpAnyH_take (i := 13) (v := ?_) opAt_13 (by kernel_rfl) (by kernel_rfl) (by kernel_rfl) (fun _ _ _ h => h) (Or.inl ⟨by rfl, ?_⟩) (by assumption) ?_
              rotate_left
              · (intro w hSw; obtain ⟨h13, hr_, ha_, hb_, t0, t1, c0, c1, c2, c3, c4, c5, c6, c7, c8⟩ := hSw; have s0 := cell_of_row w g13 0 _ _ _ h13; have s1 := cell_of_row w g13 1 _ _ _ h13; have s2 := cell_of_row w g13 2 _ _ _ h13; have s3 := cell_of_row w g13 3 _ _ _ h13; have s4 := cell_of_row w g13 4 _ _ _ h13; obtain ⟨p0, p1, p2, p3, p4, p5⟩ := Sg.box6 hr_; obtain ⟨q0, q1, q2, q3, q4, q5⟩ := Sg.box6 ha_; obtain ⟨u0, u1, u2, u3, u4, u5⟩ := Sg.box6 hb_; go_simp; try with_reducible rfl)
              try simp only [Act.put, List.setIfInBounds_toArray, List.set_cons_zero, List.set_cons_succ]
              refine wpAnyH_take (i := 14) (v := ?_) opAt_14 (by kernel_rfl) (by kernel_rfl) (by kernel_rfl) (fun _ _ _ h => h) (Or.inl ⟨by rfl, ?_⟩) (by assumption) ?_
              rotate_left
              · (intro w hSw; obtain ⟨h13, hr_, ha_, hb_, t0, t1, c0, c1, c2, c3, c4, c5, c6, c7, c8⟩ := hSw; have s0 := cell_of_row w g13 0 _ _ _ h13; have s1 := cell_of_row w g13 1 _ _ _ h13; have s2 := cell_of_row w g13 2 _ _ _ h13; have s3 := cell_of_row w g13 3 _ _ _ h13; have s4 := cell_of_row w g13 4 _ _ _ h13; obtain ⟨p0, p1, p2, p3, p4, p5⟩ := Sg.box6 hr_; obtain ⟨q0, q1, q2, q3, q4, q5⟩ := Sg.box6 ha_; obtain ⟨u0, u1, u2, u3, u4, u5⟩ := Sg.box6 hb_; go_simp; try with_reducible rfl)
              try simp only [Act.put, List.setIfInBounds_toArray, List.set_cons_zero, List.set_cons_succ]
              refine wpAnyH_ready (rs := [15]) (by kernel_rfl) (by simp) ?_
              refine AllReadyH.cons rfl (fun K hK => ?_) AllReadyH.nil
              go_simp
              refine Calls.mono (HSA.out V1 hb1 _ HRB5.out) ?_
              rintro e V2 ⟨rfl, nb⟩
              try go_wp2_with fail
              have hb2 : Below W5.heap.size W5 V2 := hb1.trans (nb.mono hb1.size)
              clear nb
              refine hK.out _ _ (HKP.out _ hb2) (fun hHeld => ?_)
              clear hK K
              try simp only [Act.put, List.setIfInBounds_toArray, List.set_cons_zero, List.set_cons_succ]
              refine wpAnyH_take (i := 16) (v := ?_) opAt_16 (by kernel_rfl) (by kernel_rfl) (by kernel_rfl) (fun _ _ _ h => h) (Or.inl ⟨by rfl, ?_⟩) (by assumption) ?_
              rotate_left
              · (intro w hSw; obtain ⟨h13, hr_, ha_, hb_, t0, t1, c0, c1, c2, c3, c4, c5, c6, c7, c8⟩ := hSw; have s0 := cell_of_row w g13 0 _ _ _ h13; have s1 := cell_of_row w g13 1 _ _ _ h13; have s2 := cell_of_row w g13 2 _ _ _ h13; have s3 := cell_of_row w g13 3 _ _ _ h13; have s4 := cell_of_row w g13 4 _ _ _ h13; obtain ⟨p0, p1, p2, p3, p4, p5⟩ := Sg.box6 hr_; obtain ⟨q0, q1, q2, q3, q4, q5⟩ := Sg.box6 ha_; obtain ⟨u0, u1, u2, u3, u4, u5⟩ := Sg.box6 hb_; go_simp; try with_reducible rfl)
              try simp only [Act.put, List.setIfInBounds_toArray, List.set_cons_zero, List.set_cons_succ]
              refine wpAnyH_take (i := 17) (v := ?_) opAt_17 (by kernel_rfl) (by kernel_rfl) (by kernel_rfl) (fun _ _ _ h => h) (Or.inl ⟨by rfl, ?_⟩) (by assumption) ?_
              rotate_left
              · (intro w hSw; obtain ⟨h13, hr_, ha_, hb_, t0, t1, c0, c1, c2, c3, c4, c5, c6, c7, c8⟩ := hSw; have s0 := cell_of_row w g13 0 _ _ _ h13; have s1 := cell_of_row w g13 1 _ _ _ h13; have s2 := cell_of_row w g13 2 _ _ _ h13; have s3 := cell_of_row w g13 3 _ _ _ h13; have s4 := cell_of_row w g13 4 _ _ _ h13; obtain ⟨p0, p1, p2, p3, p4, p5⟩ := Sg.box6 hr_; obtain ⟨q0, q1, q2, q3, q4, q5⟩ := Sg.box6 ha_; obtain ⟨u0, u1, u2, u3, u4, u5⟩ := Sg.box6 hb_; go_simp; try with_reducible rfl)
              try simp only [Act.put, List.setIfInBounds_toArray, List.set_cons_zero, List.set_cons_succ]
              refine wpAnyH_take (i := 18) (v := ?_) opAt_18 (by kernel_rfl) (by kernel_rfl) (by kernel_rfl) (fun _ _ _ h => h) (Or.inl ⟨by rfl, ?_⟩) (by assumption) ?_
              rotate_left
              · (intro w hSw; obtain ⟨h13, hr_, ha_, hb_, t0, t1, c0, c1, c2, c3, c4, c5, c6, c7, c8⟩ := hSw; have s0 := cell_of_row w g13 0 _ _ _ h13; have s1 := cell_of_row w g13 1 _ _ _ h13; have s2 := cell_of_row w g13 2 _ _ _ h13; have s3 := cell_of_row w g13 3 _ _ _ h13; have s4 := cell_of_row w g13 4 _ _ _ h13; obtain ⟨p0, p1, p2, p3, p4, p5⟩ := Sg.box6 hr_; obtain ⟨q0, q1, q2, q3, q4, q5⟩ := Sg.box6 ha_; obtain ⟨u0, u1, u2, u3, u4, u5⟩ := Sg.box6 hb_; go_simp; try with_reducible rfl)
              try simp only [Act.put, List.setIfInBounds_toArray, List.set_cons_zero, List.set_cons_succ]
              refine wpAnyH_take (i := 19) (v := ?_) opAt_19 (by kernel_rfl) (by kernel_rfl) (by kernel_rfl) (fun _ _ _ h => h) (Or.inl ⟨by rfl, ?_⟩) (by assumption) ?_
              rotate_left
              · (intro w hSw; obtain ⟨h13, hr_, ha_, hb_, t0, t1, c0, c1, c2, c3, c4, c5, c6, c7, c8⟩ := hSw; have s0 := cell_of_row w g13 0 _ _ _ h13; have s1 := cell_of_row w g13 1 _ _ _ h13; have s2 := cell_of_row w g13 2 _ _ _ h13; have s3 := cell_of_row w g13 3 _ _ _ h13; have s4 := cell_of_row w g13 4 _ _ _ h13; obtain ⟨p0, p1, p2, p3, p4, p5⟩ := Sg.box6 hr_; obtain ⟨q0, q1, q2, q3, q4, q5⟩ := Sg.box6 ha_; obtain ⟨u0, u1, u2, u3, u4, u5⟩ := Sg.box6 hb_; go_simp; try with_reducible rfl)
              try simp only [Act.put, List.setIfInBounds_toArray, List.set_cons_zero, List.set_cons_succ]
              refine wpAnyH_take (i := 20) (v := ?_) opAt_20 (by kernel_rfl) (by kernel_rfl) (by kernel_rfl) (fun _ _ _ h => h) (Or.inl ⟨by rfl, ?_⟩) (by assumption) ?_
              rotate_left
              · (intro w hSw; obtain ⟨h13, hr_, ha_, hb_, t0, t1, c0, c1, c2, c3, c4, c5, c6, c7, c8⟩ := hSw; have s0 := cell_of_row w g13 0 _ _ _ h13; have s1 := cell_of_row w g13 1 _ _ _ h13; have s2 := cell_of_row w g13 2 _ _ _ h13; have s3 := cell_of_row w g13 3 _ _ _ h13; have s4 := cell_of_row w g13 4 _ _ _ h13; obtain ⟨p0, p1, p2, p3, p4, p5⟩ := Sg.box6 hr_; obtain ⟨q0, q1, q2, q3, q4, q5⟩ := Sg.box6 ha_; obtain ⟨u0, u1, u2, u3, u4, u5⟩ := Sg.box6 hb_; go_simp; try with_reducible rfl)
              try simp only [Act.put, List.setIfInBounds_toArray, List.set_cons_zero, List.set_cons_succ]
              refine wpAnyH_take (i := 21) (v := ?_) opAt_21 (by kernel_rfl) (by kernel_rfl) (by kernel_rfl) (fun _ _ _ h => h) (Or.inl ⟨by rfl, ?_⟩) (by assumption) ?_
              rotate_left
              · (intro w hSw; obtain ⟨h13, hr_, ha_, hb_, t0, t1, c0, c1, c2, c3, c4, c5, c6, c7, c8⟩ := hSw; have s0 := cell_of_row w g13 0 _ _ _ h13; have s1 := cell_of_row w g13 1 _ _ _ h13; have s2 := cell_of_row w g13 2 _ _ _ h13; have s3 := cell_of_row w g13 3 _ _ _ h13; have s4 := cell_of_row w g13 4 _ _ _ h13; obtain ⟨p0, p1, p2, p3, p4, p5⟩ := Sg.box6 hr_; obtain ⟨q0, q1, q2, q3, q4, q5⟩ := Sg.box6 ha_; obtain ⟨u0, u1, u2, u3, u4, u5⟩ := Sg.box6 hb_; go_simp; try with_reducible rfl)
              try simp only [Act.put, List.setIfInBounds_toArray, List.set_cons_zero, List.set_cons_succ]
              refine wpAnyH_take (i := 22) (v := ?_) opAt_22 (by kernel_rfl) (by kernel_rfl) (by kernel_rfl) (fun _ _ _ h => h) (Or.inl ⟨by rfl, ?_⟩) (by assumption) ?_
              rotate_left
              · (intro w hSw; obtain ⟨h13, hr_, ha_, hb_, t0, t1, c0, c1, c2, c3, c4, c5, c6, c7, c8⟩ := hSw; have s0 := cell_of_row w g13 0 _ _ _ h13; have s1 := cell_of_row w g13 1 _ _ _ h13; have s2 := cell_of_row w g13 2 _ _ _ h13; have s3 := cell_of_row w g13 3 _ _ _ h13; have s4 := cell_of_row w g13 4 _ _ _ h13; obtain ⟨p0, p1, p2, p3, p4, p5⟩ := Sg.box6 hr_; obtain ⟨q0, q1, q2, q3, q4, q5⟩ := Sg.box6 ha_; obtain ⟨u0, u1, u2, u3, u4, u5⟩ := Sg.box6 hb_; go_simp; try with_reducible rfl)
              try simp only [Act.put, List.setIfInBounds_toArray, List.set_cons_zero, List.set_cons_succ]
              refine wpAnyH_take (i := 23) (v := ?_) opAt_23 (by kernel_rfl) (by kernel_rfl) (by kernel_rfl) (fun _ _ _ h => h) (Or.inl ⟨by rfl, ?_⟩) (by assumption) ?_
              rotate_left
              · (intro w hSw; obtain ⟨h13, hr_, ha_, hb_, t0, t1, c0, c1, c2, c3, c4, c5, c6, c7, c8⟩ := hSw; have s0 := cell_of_row w g13 0 _ _ _ h13; have s1 := cell_of_row w g13 1 _ _ _ h13; have s2 := cell_of_row w g13 2 _ _ _ h13; have s3 := cell_of_row w g13 3 _ _ _ h13; have s4 := cell_of_row w g13 4 _ _ _ h13; obtain ⟨p0, p1, p2, p3, p4, p5⟩ := Sg.box6 hr_; obtain ⟨q0, q1, q2, q3, q4, q5⟩ := Sg.box6 ha_; obtain ⟨u0, u1, u2, u3, u4, u5⟩ := Sg.box6 hb_; go_simp; try with_reducible rfl)
              try simp only [Act.put, List.setIfInBounds_toArray, List.set_cons_zero, List.set_cons_succ]
              refine wpAnyH_take (i := 24) (v := ?_) opAt_24 (by kernel_rfl) (by kernel_rfl) (by kernel_rfl) (fun _ _ _ h => h) (Or.inl ⟨by rfl, ?_⟩) (by assumption) ?_
              rotate_left
              · (intro w hSw; obtain ⟨h13, hr_, ha_, hb_, t0, t1, c0, c1, c2, c3, c4, c5, c6, c7, c8⟩ := hSw; have s0 := cell_of_row w g13 0 _ _ _ h13; have s1 := cell_of_row w g13 1 _ _ _ h13; have s2 := cell_of_row w g13 2 _ _ _ h13; have s3 := cell_of_row w g13 3 _ _ _ h13; have s4 := cell_of_row w g13 4 _ _ _ h13; obtain ⟨p0, p1, p2, p3, p4, p5⟩ := Sg.box6 hr_; obtain ⟨q0, q1, q2, q3, q4, q5⟩ := Sg.box6 ha_; obtain ⟨u0, u1, u2, u3, u4, u5⟩ := Sg.box6 hb_; go_simp; try with_reducible rfl)
              try simp only [Act.put, List.setIfInBounds_toArray, List.set_cons_zero, List.set_cons_succ]
              refine wpAnyH_take (i := 25) (v := ?_) opAt_25 (by kernel_rfl) (by kernel_rfl) (by kernel_rfl) (fun _ _ _ h => h) (Or.inl ⟨by rfl, ?_⟩) (by assumption) ?_
              rotate_left
              · (intro w hSw; obtain ⟨h13, hr_, ha_, hb_, t0, t1, c0, c1, c2, c3, c4, c5, c6, c7, c8⟩ := hSw; have s0 := cell_of_row w g13 0 _ _ _ h13; have s1 := cell_of_row w g13 1 _ _ _ h13; have s2 := cell_of_row w g13 2 _ _ _ h13; have s3 := cell_of_row w g13 3 _ _ _ h13; have s4 := cell_of_row w g13 4 _ _ _ h13; obtain ⟨p0, p1, p2, p3, p4, p5⟩ := Sg.box6 hr_; obtain ⟨q0, q1, q2, q3, q4, q5⟩ := Sg.box6 ha_; obtain ⟨u0, u1, u2, u3, u4, u5⟩ := Sg.box6 hb_; go_simp; try with_reducible rfl)
              try simp only [Act.put, List.setIfInBounds_toArray, List.set_cons_zero, List.set_cons_succ]
              refine wpAnyH_take (i := 26) (v := ?_) opAt_26 (by kernel_rfl) (by kernel_rfl) (by kernel_rfl) (fun _ _ _ h => h) (Or.inl ⟨by rfl, ?_⟩) (by assumption) ?_
              rotate_left
              · (intro w hSw; obtain ⟨h13, hr_, ha_, hb_, t0, t1, c0, c1, c2, c3, c4, c5, c6, c7, c8⟩ := hSw; have s0 := cell_of_row w g13 0 _ _ _ h13; have s1 := cell_of_row w g13 1 _ _ _ h13; have s2 := cell_of_row w g13 2 _ _ _ h13; have s3 := cell_of_row w g13 3 _ _ _ h13; have s4 := cell_of_row w g13 4 _ _ _ h13; obtain ⟨p0, p1, p2, p3, p4, p5⟩ := Sg.box6 hr_; obtain ⟨q0, q1, q2, q3, q4, q5⟩ := Sg.box6 ha_; obtain ⟨u0, u1, u2, u3, u4, u5⟩ := Sg.box6 hb_; go_simp; try with_reducible rfl)
              try simp only [Act.put, List.setIfInBounds_toArray, List.set_cons_zero, List.set_cons_succ]
              refine wpAnyH_take (i := 27) (v := ?_) opAt_27 (by kernel_rfl) (by kernel_rfl) (by kernel_rfl) (fun _ _ _ h => h) (Or.inl ⟨by rfl, ?_⟩) (by assumption) ?_
              rotate_left
              · (intro w hSw; obtain ⟨h13, hr_, ha_, hb_, t0, t1, c0, c1, c2, c3, c4, c5, c6, c7, c8⟩ := hSw; have s0 := cell_of_row w g13 0 _ _ _ h13; have s1 := cell_of_row w g13 1 _ _ _ h13; have s2 := cell_of_row w g13 2 _ _ _ h13; have s3 := cell_of_row w g13 3 _ _ _ h13; have s4 := cell_of_row w g13 4 _ _ _ h13; obtain ⟨p0, p1, p2, p3, p4, p5⟩ := Sg.box6 hr_; obtain ⟨q0, q1, q2, q3, q4, q5⟩ := Sg.box6 ha_; obtain ⟨u0, u1, u2, u3, u4, u5⟩ := Sg.box6 hb_; go_simp; try with_reducible rfl)
              try simp only [Act.put, List.setIfInBounds_toArray, List.set_cons_zero, List.set_cons_succ]
              refine wpAnyH_take (i := 28) (v := ?_) opAt_28 (by kernel_rfl) (by kernel_rfl) (by kernel_rfl) (fun _ _ _ h => h) (Or.inl ⟨by rfl, ?_⟩) (by assumption) ?_
              rotate_left
              · (intro w hSw; obtain ⟨h13, hr_, ha_, hb_, t0, t1, c0, c1, c2, c3, c4, c5, c6, c7, c8⟩ := hSw; have s0 := cell_of_row w g13 0 _ _ _ h13; have s1 := cell_of_row w g13 1 _ _ _ h13; have s2 := cell_of_row w g13 2 _ _ _ h13; have s3 := cell_of_row w g13 3 _ _ _ h13; have s4 := cell_of_row w g13 4 _ _ _ h13; obtain ⟨p0, p1, p2, p3, p4, p5⟩ := Sg.box6 hr_; obtain ⟨q0, q1, q2, q3, q4, q5⟩ := Sg.box6 ha_; obtain ⟨u0, u1, u2, u3, u4, u5⟩ := Sg.box6 hb_; go_simp; try with_reducible rfl)
              try simp only [Act.put, List.setIfInBounds_toArray, List.set_cons_zero, List.set_cons_succ]
              refine wpAnyH_take (i := 29) (v := ?_) opAt_29 (by kernel_rfl) (by kernel_rfl) (by kernel_rfl) (fun _ _ _ h => h) (Or.inl ⟨by rfl, ?_⟩) (by assumption) ?_
              rotate_left
              · (intro w hSw; obtain ⟨h13, hr_, ha_, hb_, t0, t1, c0, c1, c2, c3, c4, c5, c6, c7, c8⟩ := hSw; have s0 := cell_of_row w g13 0 _ _ _ h13; have s1 := cell_of_row w g13 1 _ _ _ h13; have s2 := cell_of_row w g13 2 _ _ _ h13; have s3 := cell_of_row w g13 3 _ _ _ h13; have s4 := cell_of_row w g13 4 _ _ _ h13; obtain ⟨p0, p1, p2, p3, p4, p5⟩ := Sg.box6 hr_; obtain ⟨q0, q1, q2, q3, q4, q5⟩ := Sg.box6 ha_; obtain ⟨u0, u1, u2, u3, u4, u5⟩ := Sg.box6 hb_; go_simp; try with_reducible rfl)
              try simp only [Act.put, List.setIfInBounds_toArray, List.set_cons_zero, List.set_cons_succ]
              refine wpAnyH_take (i := 30) (v := ?_) opAt_30 (by kernel_rfl) (by kernel_rfl) (by kernel_rfl) (fun _ _ _ h => h) (Or.inl ⟨by rfl, ?_⟩) (by assumption) ?_
              rotate_left
              · (intro w hSw; obtain ⟨h13, hr_, ha_, hb_, t0, t1, c0, c1, c2, c3, c4, c5, c6, c7, c8⟩ := hSw; have s0 := cell_of_row w g13 0 _ _ _ h13; have s1 := cell_of_row w g13 1 _ _ _ h13; have s2 := cell_of_row w g13 2 _ _ _ h13; have s3 := cell_of_row w g13 3 _ _ _ h13; have s4 := cell_of_row w g13 4 _ _ _ h13; obtain ⟨p0, p1, p2, p3, p4, p5⟩ := Sg.box6 hr_; obtain ⟨q0, q1, q2, q3, q4, q5⟩ := Sg.box6 ha_; obtain ⟨u0, u1, u2, u3, u4, u5⟩ := Sg.box6 hb_; go_simp; try with_reducible rfl)
              try simp only [Act.put, List.setIfInBounds_toArray, List.set_cons_zero, List.set_cons_succ]
              refine wpAnyH_take (i := 31) (v := ?_) opAt_31 (by kernel_rfl) (by kernel_rfl) (by kernel_rfl) (fun _ _ _ h => h) (Or.inl ⟨by rfl, ?_⟩) (by assumption) ?_
              rotate_left
              · (intro w hSw; obtain ⟨h13, hr_, ha_, hb_, t0, t1, c0, c1, c2, c3, c4, c5, c6, c7, c8⟩ := hSw; have s0 := cell_of_row w g13 0 _ _ _ h13; have s1 := cell_of_row w g13 1 _ _ _ h13; have s2 := cell_of_row w g13 2 _ _ _ h13; have s3 := cell_of_row w g13 3 _ _ _ h13; have s4 := cell_of_row w g13 4 _ _ _ h13; obtain ⟨p0, p1, p2, p3, p4, p5⟩ := Sg.box6 hr_; obtain ⟨q0, q1, q2, q3, q4, q5⟩ := Sg.box6 ha_; obtain ⟨u0, u1, u2, u3, u4, u5⟩ := Sg.box6 hb_; go_simp; try with_reducible rfl)
              try simp only [Act.put, List.setIfInBounds_toArray, List.set_cons_zero, List.set_cons_succ]
              refine wpAnyH_take (i := 32) (v := ?_) opAt_32 (by kernel_rfl) (by kernel_rfl) (by kernel_rfl) (fun _ _ _ h => h) (Or.inl ⟨by rfl, ?_⟩) (by assumption) ?_
              rotate_left
              · (intro w hSw; obtain ⟨h13, hr_, ha_, hb_, t0, t1, c0, c1, c2, c3, c4, c5, c6, c7, c8⟩ := hSw; have s0 := cell_of_row w g13 0 _ _ _ h13; have s1 := cell_of_row w g13 1 _ _ _ h13; have s2 := cell_of_row w g13 2 _ _ _ h13; have s3 := cell_of_row w g13 3 _ _ _ h13; have s4 := cell_of_row w g13 4 _ _ _ h13; obtain ⟨p0, p1, p2, p3, p4, p5⟩ := Sg.box6 hr_; obtain ⟨q0, q1, q2, q3, q4, q5⟩ := Sg.box6 ha_; obtain ⟨u0, u1, u2, u3, u4, u5⟩ := Sg.box6 hb_; go_simp; try with_reducible rfl)
              try simp only [Act.put, List.setIfInBounds_toArray, List.set_cons_zero, List.set_cons_succ]
              refine wpAnyH_take (i := 33) (v := ?_) opAt_33 (by kernel_rfl) (by kernel_rfl) (by kernel_rfl) (fun _ _ _ h => h) (Or.inl ⟨by rfl, ?_⟩) (by assumption) ?_
              rotate_left
              · (intro w hSw; obtain ⟨h13, hr_, ha_, hb_, t0, t1, c0, c1, c2, c3, c4, c5, c6, c7, c8⟩ := hSw; have s0 := cell_of_row w g13 0 _ _ _ h13; have s1 := cell_of_row w g13 1 _ _ _ h13; have s2 := cell_of_row w g13 2 _ _ _ h13; have s3 := cell_of_row w g13 3 _ _ _ h13; have s4 := cell_of_row w g13 4 _ _ _ h13; obtain ⟨p0, p1, p2, p3, p4, p5⟩ := Sg.box6 hr_; obtain ⟨q0, q1, q2, q3, q4, q5⟩ := Sg.box6 ha_; obtain ⟨u0, u1, u2, u3, u4, u5⟩ := Sg.box6 hb_; go_simp; try with_reducible rfl)
              try simp only [Act.put, List.setIfInBounds_toArray, List.set_cons_zero, List.set_cons_succ]
              refine wpAnyH_take (i := 34) (v := ?_) opAt_34 (by kernel_rfl) (by kernel_rfl) (by kernel_rfl) (fun _ _ _ h => h) (Or.inl ⟨by rfl, ?_⟩) (by assumption) ?_
              rotate_left
              · (intro w hSw; obtain ⟨h13, hr_, ha_, hb_, t0, t1, c0, c1, c2, c3, c4, c5, c6, c7, c8⟩ := hSw; have s0 := cell_of_row w g13 0 _ _ _ h13; have s1 := cell_of_row w g13 1 _ _ _ h13; have s2 := cell_of_row w g13 2 _ _ _ h13; have s3 := cell_of_row w g13 3 _ _ _ h13; have s4 := cell_of_row w g13 4 _ _ _ h13; obtain ⟨p0, p1, p2, p3, p4, p5⟩ := Sg.box6 hr_; obtain ⟨q0, q1, q2, q3, q4, q5⟩ := Sg.box6 ha_; obtain ⟨u0, u1, u2, u3, u4, u5⟩ := Sg.box6 hb_; go_simp; try with_reducible rfl)
              try simp only [Act.put, List.setIfInBounds_toArray, List.set_cons_zero, List.set_cons_succ]
              refine wpAnyH_take (i := 35) (v := ?_) opAt_35 (by kernel_rfl) (by kernel_rfl) (by kernel_rfl) (fun _ _ _ h => h) (Or.inl ⟨by rfl, ?_⟩) (by assumption) ?_
              rotate_left
              · (intro w hSw; obtain ⟨h13, hr_, ha_, hb_, t0, t1, c0, c1, c2, c3, c4, c5, c6, c7, c8⟩ := hSw; have s0 := cell_of_row w g13 0 _ _ _ h13; have s1 := cell_of_row w g13 1 _ _ _ h13; have s2 := cell_of_row w g13 2 _ _ _ h13; have s3 := cell_of_row w g13 3 _ _ _ h13; have s4 := cell_of_row w g13 4 _ _ _ h13; obtain ⟨p0, p1, p2, p3, p4, p5⟩ := Sg.box6 hr_; obtain ⟨q0, q1, q2, q3, q4, q5⟩ := Sg.box6 ha_; obtain ⟨u0, u1, u2, u3, u4, u5⟩ := Sg.box6 hb_; go_simp; try with_reducible rfl)
              try simp only [Act.put, List.setIfInBounds_toArray, List.set_cons_zero, List.set_cons_succ]
              refine wpAnyH_take (i := 36) (v := ?_) opAt_36 (by kernel_rfl) (by kernel_rfl) (by kernel_rfl) (fun _ _ _ h => h) (Or.inl ⟨by rfl, ?_⟩) (by assumption) ?_
              rotate_left
              · (intro w hSw; obtain ⟨h13, hr_, ha_, hb_, t0, t1, c0, c1, c2, c3, c4, c5, c6, c7, c8⟩ := hSw; have s0 := cell_of_row w g13 0 _ _ _ h13; have s1 := cell_of_row w g13 1 _ _ _ h13; have s2 := cell_of_row w g13 2 _ _ _ h13; have s3 := cell_of_row w g13 3 _ _ _ h13; have s4 := cell_of_row w g13 4 _ _ _ h13; obtain ⟨p0, p1, p2, p3, p4, p5⟩ := Sg.box6 hr_; obtain ⟨q0, q1, q2, q3, q4, q5⟩ := Sg.box6 ha_; obtain ⟨u0, u1, u2, u3, u4, u5⟩ := Sg.box6 hb_; go_simp; try with_reducible rfl)
              try simp only [Act.put, List.setIfInBounds_toArray, List.set_cons_zero, List.set_cons_succ]
              refine wpAnyH_take (i := 37) (v := ?_) opAt_37 (by kernel_rfl) (by kernel_rfl) (by kernel_rfl) (fun _ _ _ h => h) (Or.inl ⟨by rfl, ?_⟩) (by assumption) ?_
              rotate_left
              · (intro w hSw; obtain ⟨h13, hr_, ha_, hb_, t0, t1, c0, c1, c2, c3, c4, c5, c6, c7, c8⟩ := hSw; have s0 := cell_of_row w g13 0 _ _ _ h13; have s1 := cell_of_row w g13 1 _ _ _ h13; have s2 := cell_of_row w g13 2 _ _ _ h13; have s3 := cell_of_row w g13 3 _ _ _ h13; have s4 := cell_of_row w g13 4 _ _ _ h13; obtain ⟨p0, p1, p2, p3, p4, p5⟩ := Sg.box6 hr_; obtain ⟨q0, q1, q2, q3, q4, q5⟩ := Sg.box6 ha_; obtain ⟨u0, u1, u2, u3, u4, u5⟩ := Sg.box6 hb_; go_simp; try with_reducible rfl)
              try simp only [Act.put, List.setIfInBounds_toArray, List.set_cons_zero, List.set_cons_succ]
              refine wpAnyH_take (i := 38) (v := ?_) opAt_38 (by kernel_rfl) (by kernel_rfl) (by kernel_rfl) (fun _ _ _ h => h) (Or.inl ⟨by rfl, ?_⟩) (by assumption) ?_
              rotate_left
              · (intro w hSw; obtain ⟨h13, hr_, ha_, hb_, t0, t1, c0, c1, c2, c3, c4, c5, c6, c7, c8⟩ := hSw; have s0 := cell_of_row w g13 0 _ _ _ h13; have s1 := cell_of_row w g13 1 _ _ _ h13; have s2 := cell_of_row w g13 2 _ _ _ h13; have s3 := cell_of_row w g13 3 _ _ _ h13; have s4 := cell_of_row w g13 4 _ _ _ h13; obtain ⟨p0, p1, p2, p3, p4, p5⟩ := Sg.box6 hr_; obtain ⟨q0, q1, q2, q3, q4, q5⟩ := Sg.box6 ha_; obtain ⟨u0, u1, u2, u3, u4, u5⟩ := Sg.box6 hb_; go_simp; try with_reducible rfl)
              try simp only [Act.put, List.setIfInBounds_toArray, List.set_cons_zero, List.set_cons_succ]
              refine wpAnyH_ready (rs := [39]) (by kernel_rfl) (by simp) ?_
              refine AllReadyH.cons rfl (fun K hK => ?_) AllReadyH.nil
              go_simp
              refine Calls.mono (HSA.out V2 hb2 _ HRF5.out) ?_
              rintro e V3 ⟨rfl, nb⟩
              try go_wp2_with fail
              have hb3 : Below W5.heap.size W5 V3 := hb2.trans (nb.mono hb2.size)
              clear nb
              refine hK.out _ _ (HKP.out _ hb3) (fun hHeld => ?_)
              clear hK K
              try simp only [Act.put, List.setIfInBounds_toArray, List.set_cons_zero, List.set_cons_succ]
              refine wpAnyH_take (i := 40) (v := ?_) opAt_40 (by kernel_rfl) (by kernel_rfl) (by kernel_rfl) (fun _ _ _ h => h) (Or.inl ⟨by rfl, ?_⟩) (by assumption) ?_
              rotate_left
              · (intro w hSw; obtain ⟨h13, hr_, ha_, hb_, t0, t1, c0, c1, c2, c3, c4, c5, c6, c7, c8⟩ := hSw; have s0 := cell_of_row w g13 0 _ _ _ h13; have s1 := cell_of_row w g13 1 _ _ _ h13; have s2 := cell_of_row w g13 2 _ _ _ h13; have s3 := cell_of_row w g13 3 _ _ _ h13; have s4 := cell_of_row w g13 4 _ _ _ h13; obtain ⟨p0, p1, p2, p3, p4, p5⟩ := Sg.box6 hr_; obtain ⟨q0, q1, q2, q3, q4, q5⟩ := Sg.box6 ha_; obtain ⟨u0, u1, u2, u3, u4, u5⟩ := Sg.box6 hb_; go_simp; try with_reducible rfl)
              try simp only [Act.put, List.setIfInBounds_toArray, List.set_cons_zero, List.set_cons_succ]
              refine wpAnyH_take (i := 41) (v := ?_) opAt_41 (by kernel_rfl) (by kernel_rfl) (by kernel_rfl) (fun _ _ _ h => h) (Or.inl ⟨by rfl, ?_⟩) (by assumption) ?_
              rotate_left
              · (intro w hSw; obtain ⟨h13, hr_, ha_, hb_, t0, t1, c0, c1, c2, c3, c4, c5, c6, c7, c8⟩ := hSw; have s0 := cell_of_row w g13 0 _ _ _ h13; have s1 := cell_of_row w g13 1 _ _ _ h13; have s2 := cell_of_row w g13 2 _ _ _ h13; have s3 := cell_of_row w g13 3 _ _ _ h13; have s4 := cell_of_row w g13 4 _ _ _ h13; obtain ⟨p0, p1, p2, p3, p4, p5⟩ := Sg.box6 hr_; obtain ⟨q0, q1, q2, q3, q4, q5⟩ := Sg.box6 ha_; obtain ⟨u0, u1, u2, u3, u4, u5⟩ := Sg.box6 hb_; go_simp; try with_reducible rfl)
              try simp only [Act.put, List.setIfInBounds_toArray, List.set_cons_zero, List.set_cons_succ]
              refine wpAnyH_done (by kernel_rfl) ?_ _
              refine NoPanic.normal ?_
              go_wp2_with fail
              go_meet
              case rel => exact ⟨rfl, Lib.hid hb3⟩
          case rest =>
            rename World => Wz
            obtain ⟨rfl, hbz⟩ := hcut
            have HBZ := Lib.hid (bel11 HB5.out hbz.out)
            clear hbz
            go_wp2_with fail
            exact ⟨⟨j + 1, by push_cast; rfl, by omega, HBZ⟩, by simp [RowKit.intOf]; omega⟩
        · obtain rfl : n = j := by omega
          have hns : ¬ ((n : Int) < (n : Int)) := by omega
          have HBJ := Lib.hid hh.out
          clear hh
          rcases Nat.eq_zero_or_pos n with hn0 | hn0
          · have hgt : ¬ ((n : Int) > 0) := by omega
            clear hn0
            have u1 : IntKind.u32.wrap (n : Int) = (n : Int) := IntWalk.u32_in _ (by omega)
            have u2 : IntKind.u64.wrap (n : Int) = (n : Int) := IntWalk.u64_in _ (by omega)
            have u3 : IntKind.u32.wrap (at_ : Int) = (at_ : Int) := IntWalk.u32_in _ (by omega)
            obtain ⟨r2, hr2⟩ : ∃ r, r = id % 16777215 := ⟨_, rfl⟩
            have u4 : (id : Int) % 16777215 = (r2 : Int) := by omega
            have u5 : IntKind.u32.wrap ((r2 : Int) + 1) = ((r2 + 1 : Nat) : Int) := by rw [IntWalk.u32_in _ (by omega)]; push_cast; rfl
            obtain ⟨r3, hr3⟩ : ∃ r, r = at_ % 16 := ⟨_, rfl⟩
            have u6 : (at_ : Int) % 16 = (r3 : Int) := by omega
            obtain ⟨ir, hir⟩ : ∃ r, r = r2 + 1 := ⟨_, rfl⟩
            rw [← hir] at u5
            have HIR := Lib.hid (show ir ≠ id from by have := HI.out; omega)
            have HR3 := Lib.hid (show r3 < 16 from by omega)
            clear hr2 hr3 hir
            go_wp2_with fail
            refine Calls.mono (HSEL.out wr (bel11 HBQ.out HBJ.out)) ?_
            rintro e y1 ⟨rfl, hb⟩
            have HY1 := Lib.hid (bel11 HBJ.out hb)
            obtain ⟨g21, hg21⟩ : ∃ g, y1.heap.size = g := ⟨_, rfl⟩
            obtain ⟨Y2, hY2⟩ : ∃ V, y1.alloc (.cells #[.int .u32 (id : Int), .int .u32 (z : Int), .int .u32 (n : Int), .int .u64 (fi : Int), .int .u64 (n : Int)] 39) = V := ⟨_, rfl⟩
            have hk21 : Y2.heap[g21]? = some (.cells #[.int .u32 (id : Int), .int .u32 (z : Int), .int .u32 (n : Int), .int .u64 (fi : Int), .int .u64 (n : Int)] 39 (0, 0)) := by rw [← hY2, ← hg21]; exact heap_alloc_new y1 _
            have HY2 := Lib.hid (bel11 HY1.out (show Below y1.heap.size y1 Y2 from by rw [← hY2]; exact al11 _ _))
            have d0 := cell_of_row Y2 g21 0 _ _ _ hk21
            have d1 := cell_of_row Y2 g21 1 _ _ _ hk21
            have d2 := cell_of_row Y2 g21 2 _ _ _ hk21
            have d3 := cell_of_row Y2 g21 3 _ _ _ hk21
            have d4 := cell_of_row Y2 g21 4 _ _ _ hk21
            clear hb hk21
            go_wp2_with fail
            refine Calls.mono (sread_no id z (HSX.out.2.1.on HY2.out) (fun h => Nat.lt_irrefl _ h.2.2)) ?_
            rintro e y3 ⟨rfl, hb⟩
            have HY3 := Lib.hid (bel11 HY2.out hb)
            clear hb d0 d1 d2 d3 d4 hY2
            unfold recV
            go_wp2_with fail
            refine Calls.mono (sread_no ir 16 ((HSX.out.2.1.on HY3.out).on (al11 _ _)) (fun h => HIR.out h.1)) ?_
            rintro e y4 ⟨rfl, hb⟩
            have HY4 := Lib.hid (bel11 (bel11 HY3.out (al11 _ _)) hb)
            clear hb
            unfold recV
            go_wp2_with fail
            refine Calls.mono (sread_no id r3 ((HSX.out.2.1.on HY4.out).on (al11 _ _)) (fun h => by have := HR3.out; omega)) ?_
            rintro e y5 ⟨rfl, hb⟩
            have HY5 := Lib.hid (bel11 (bel11 HY4.out (al11 _ _)) hb)
            clear hb
            unfold recV
            go_wp2_with fail
            go_ret
            exact ⟨rfl, bel11 HBWQ.out (bel11 HY5.out (al11 _ _))⟩
          · have hgt : (n : Int) > 0 := by omega
            obtain rfl : fi = 1 := by rw [HFI.out, if_neg (by omega)]
            clear hn0
            have u1 : IntKind.u32.wrap (n : Int) = (n : Int) := IntWalk.u32_in _ (by omega)
            have u2 : IntKind.u64.wrap (n : Int) = (n : Int) := IntWalk.u64_in _ (by omega)
            have u3 : IntKind.u32.wrap (at_ : Int) = (at_ : Int) := IntWalk.u32_in _ (by omega)
            obtain ⟨r2, hr2⟩ : ∃ r, r = id % 16777215 := ⟨_, rfl⟩
            have u4 : (id : Int) % 16777215 = (r2 : Int) := by omega
            have u5 : IntKind.u32.wrap ((r2 : Int) + 1) = ((r2 + 1 : Nat) : Int) := by rw [IntWalk.u32_in _ (by omega)]; push_cast; rfl
            obtain ⟨r3, hr3⟩ : ∃ r, r = at_ % 16 := ⟨_, rfl⟩
            have u6 : (at_ : Int) % 16 = (r3 : Int) := by omega
            obtain ⟨ir, hir⟩ : ∃ r, r = r2 + 1 := ⟨_, rfl⟩
            rw [← hir] at u5
            have HIR := Lib.hid (show ir ≠ id from by have := HI.out; omega)
            have HR3 := Lib.hid (show r3 < 16 from by omega)
            clear hr2 hr3 hir
            go_wp2_with fail
            refine Calls.mono (HSEL.out wr (bel11 HBQ.out HBJ.out)) ?_
            rintro e y1 ⟨rfl, hb⟩
            have HY1 := Lib.hid (bel11 HBJ.out hb)
            obtain ⟨g21, hg21⟩ : ∃ g, y1.heap.size = g := ⟨_, rfl⟩
            obtain ⟨Y2, hY2⟩ : ∃ V, y1.alloc (.cells #[.int .u32 (id : Int), .int .u32 (z : Int), .int .u32 (n : Int), .int .u64 1, .int .u64 (n : Int)] 39) = V := ⟨_, rfl⟩
            have hk21 : Y2.heap[g21]? = some (.cells #[.int .u32 (id : Int), .int .u32 (z : Int), .int .u32 (n : Int), .int .u64 1, .int .u64 (n : Int)] 39 (0, 0)) := by rw [← hY2, ← hg21]; exact heap_alloc_new y1 _
            have HY2 := Lib.hid (bel11 HY1.out (show Below y1.heap.size y1 Y2 from by rw [← hY2]; exact al11 _ _))
            have d0 := cell_of_row Y2 g21 0 _ _ _ hk21
            have d1 := cell_of_row Y2 g21 1 _ _ _ hk21
            have d2 := cell_of_row Y2 g21 2 _ _ _ hk21
            have d3 := cell_of_row Y2 g21 3 _ _ _ hk21
            have d4 := cell_of_row Y2 g21 4 _ _ _ hk21
            clear hb hk21
            go_wp2_with fail
            refine Calls.mono (sread_no id z (HSX.out.2.1.on HY2.out) (fun h => Nat.lt_irrefl _ h.2.2)) ?_
            rintro e y3 ⟨rfl, hb⟩
            have HY3 := Lib.hid (bel11 HY2.out hb)
            clear hb d0 d1 d2 d3 d4 hY2
            unfold recV
            go_wp2_with fail
            refine Calls.mono (sread_no ir 16 ((HSX.out.2.1.on HY3.out).on (al11 _ _)) (fun h => HIR.out h.1)) ?_
            rintro e y4 ⟨rfl, hb⟩
            have HY4 := Lib.hid (bel11 (bel11 HY3.out (al11 _ _)) hb)
            clear hb
            unfold recV
            go_wp2_with fail
            refine Calls.mono (sread_no id r3 ((HSX.out.2.1.on HY4.out).on (al11 _ _)) (fun h => by have := HR3.out; omega)) ?_
            rintro e y5 ⟨rfl, hb⟩
            have HY5 := Lib.hid (bel11 (bel11 HY4.out (al11 _ _)) hb)
            clear hb
            unfold recV
            go_wp2_with fail
            go_ret
            exact ⟨rfl, bel11 HBWQ.out (bel11 HY5.out (al11 _ _))⟩
end Go.Proofs.YtaicibmaogiibaaGreatDoor.segBack

