
/-
  The walk of the law KeyHashes: it returns true, and writes nothing that was there.
-/
import Derived.Test.YtaekndhchdpobaaKyKnows
import Derived.Test.YtaekndhchdpobaaKyHash
import Derived.Test.YtaekndhchdpobaaKyH
import Derived.Test.YtaekndhchdpobaaStep
import Derived.Test.YtaekndhchdpobaaKyEq
import Derived.Deep.MidRow
import Derived.StillTailTactics
import Derived.Test.YtaekndhchdpobaaRegion
import Derived.Deep.RegionHeld3
import Derived.OpenShut
import Derived.IntWalk
set_option linter.unusedVariables false
set_option linter.unusedSimpArgs false
namespace Go.Proofs.Ytaekndhchdpobaa.keyHashes
open Go.RowKit

theorem rd_new (w : World) (l : List UInt8) (t : TypeId) : Rd (w.alloc (.cells (bvs l).toArray t)) (w.alloc (.cells (bvs l).toArray t)).heap.size (some ⟨w.heap.size, 0, none⟩) (bvs l) := by
  obtain ⟨A, c, e, _, h⟩ := bs_new w l _ t rfl
  injection e with e1 e2 e3
  subst e1
  exact h
/-- what lies in the boxes -/
structure HH (w : World) (P Q R T : Nat) (a b d : List UInt8) (s t : Nat) : Prop where
  ra : Rd w w.heap.size (some ⟨P, 0, none⟩) (bvs a)
  rb : Rd w w.heap.size (some ⟨Q, 0, none⟩) (bvs b)
  rd : Rd w w.heap.size (some ⟨T, 0, none⟩) (bvs d)
  c0 : w.cell? ⟨R, 0, none⟩ = some (.int .u64 (s : Int))
  c1 : w.cell? ⟨R, 1, none⟩ = some (.int .u64 (t : Int))
  lt : R < w.heap.size
theorem HH.on {w w' : World} {P Q R T : Nat} {a b d : List UInt8} {s t : Nat} (h : HH w P Q R T a b d s t) (hb : Below w.heap.size w w') : HH w' P Q R T a b d s t :=
  ⟨(h.ra.below hb (Nat.le_refl _)).mono hb.size, (h.rb.below hb (Nat.le_refl _)).mono hb.size, (h.rd.below hb (Nat.le_refl _)).mono hb.size,
    (hb.cell (p := ⟨R, 0, none⟩) h.lt).trans h.c0, (hb.cell (p := ⟨R, 1, none⟩) h.lt).trans h.c1, by have := h.lt; have := hb.size; omega⟩
theorem HH.drewN {w : World} {P Q R T : Nat} {a b d : List UInt8} {s t : Nat} (h : HH w P Q R T a b d s t) (n : Nat) : HH (w.drewN n) P Q R T a b d s t := ⟨h.ra, h.rb, h.rd, h.c0, h.c1, h.lt⟩
theorem HH.new (w : World) (a b d : List UInt8) (s t : Nat) (t1 t2 : TypeId) :
    HH ((((w.alloc (.cells (bvs a).toArray t1)).alloc (.cells (bvs b).toArray t1)).alloc (.cells #[.int .u64 (s : Int), .int .u64 (t : Int)] t2)).alloc (.cells (bvs d).toArray t1)) w.heap.size (w.heap.size + 1) (w.heap.size + 1 + 1) (w.heap.size + 1 + 1 + 1) a b d s t := by
  have s1 : (w.alloc (.cells (bvs a).toArray t1)).heap.size = w.heap.size + 1 := by simp
  have r1 := rd_new w a t1
  generalize w.alloc (.cells (bvs a).toArray t1) = w1 at *
  have b2 := bnew4 w1 (.cells (bvs b).toArray t1)
  have r2 := rd_new w1 b t1
  have s2 : (w1.alloc (.cells (bvs b).toArray t1)).heap.size = w1.heap.size + 1 := by simp
  rw [s1] at r2 s2
  generalize w1.alloc (.cells (bvs b).toArray t1) = w2 at *
  have b3 := bnew4 w2 (.cells #[.int .u64 (s : Int), .int .u64 (t : Int)] t2)
  have c0 : (w2.alloc (.cells #[.int .u64 (s : Int), .int .u64 (t : Int)] t2)).cell? ⟨w2.heap.size, 0, none⟩ = some (.int .u64 (s : Int)) := by simp
  have c1 : (w2.alloc (.cells #[.int .u64 (s : Int), .int .u64 (t : Int)] t2)).cell? ⟨w2.heap.size, 1, none⟩ = some (.int .u64 (t : Int)) := by simp
  have s3 : (w2.alloc (.cells #[.int .u64 (s : Int), .int .u64 (t : Int)] t2)).heap.size = w2.heap.size + 1 := by simp
  rw [s2] at c0 c1 s3
  generalize w2.alloc (.cells #[.int .u64 (s : Int), .int .u64 (t : Int)] t2) = w3 at *
  have b4 := bnew4 w3 (.cells (bvs d).toArray t1)
  have r4 := rd_new w3 d t1
  have s4 : (w3.alloc (.cells (bvs d).toArray t1)).heap.size = w3.heap.size + 1 := by simp
  rw [s3] at r4 s4
  generalize w3.alloc (.cells (bvs d).toArray t1) = w4 at *
  refine ⟨?_, ?_, by rw [← s3] at r4; simpa [s3] using r4, ?_, ?_, by omega⟩
  · exact (((r1.below b2 (Nat.le_refl _)).mono b2.size).below b3 (Nat.le_refl _) |>.mono b3.size).below b4 (Nat.le_refl _) |>.mono b4.size
  · exact ((r2.below b3 (Nat.le_refl _)).mono b3.size).below b4 (Nat.le_refl _) |>.mono b4.size
  · exact (b4.cell (p := ⟨w.heap.size + 1 + 1, 0, none⟩) (show w.heap.size + 1 + 1 < w3.heap.size by omega)).trans c0
  · exact (b4.cell (p := ⟨w.heap.size + 1 + 1, 1, none⟩) (show w.heap.size + 1 + 1 < w3.heap.size by omega)).trans c1

theorem arr8 : Try.prog.underlying 68 = some (.array (Try.prog.arrayLen 68) (Try.prog.elem 68)) := by kernel_rfl
theorem arr8L : Try.prog.arrayLen 68 = 8 := by kernel_rfl
theorem arr8z (w : World) : (sizeOf (Try.prog.elem 68)).run Try.prog w = .ok 1 w := by kernel_rfl
theorem arr_h (B k : Nat) (h : k ≤ 8) (w : World) : (Instr.sliceAt 68 (.pointer (some ⟨B, 0, none⟩)) none (some (.int .i64 (k : Int))) none).run Try.prog w = .ok (.slice (some ⟨B, 0, none⟩) k 8) w := by
  rw [run_sliceAt_array_h _ _ _ arr8 _ _ (by omega) (by rw [arr8L]; omega), arr8z, arr8L]
  simp [Result.andThen, slicedAt, add_none]
theorem arr_all (B : Nat) (w : World) : (Instr.sliceAt 68 (.pointer (some ⟨B, 0, none⟩)) none none none).run Try.prog w = .ok (.slice (some ⟨B, 0, none⟩) 8 8) w := by
  rw [run_sliceAt_array_all _ _ _ arr8, arr8z, arr8L]
  simp [Result.andThen, slicedAt, add_none]
theorem cells8 {w : World} {P B : Nat} {a0 a1 a2 a3 a4 a5 a6 a7 : UInt8} (h : Rd w B (some ⟨P, 0, none⟩) (bvs [a0, a1, a2, a3, a4, a5, a6, a7])) :
    w.cell? ⟨P, 0, none⟩ = some (.int .u8 (a0.toNat : Int)) ∧ w.cell? ⟨P, 1, none⟩ = some (.int .u8 (a1.toNat : Int)) ∧ w.cell? ⟨P, 2, none⟩ = some (.int .u8 (a2.toNat : Int)) ∧ w.cell? ⟨P, 3, none⟩ = some (.int .u8 (a3.toNat : Int)) ∧
    w.cell? ⟨P, 4, none⟩ = some (.int .u8 (a4.toNat : Int)) ∧ w.cell? ⟨P, 5, none⟩ = some (.int .u8 (a5.toNat : Int)) ∧ w.cell? ⟨P, 6, none⟩ = some (.int .u8 (a6.toNat : Int)) ∧ w.cell? ⟨P, 7, none⟩ = some (.int .u8 (a7.toNat : Int)) := by
  obtain ⟨b, o, e, _, hc⟩ := h (by simp [bvs])
  obtain ⟨rfl, rfl⟩ : P = b ∧ 0 = o := by simpa using e
  exact ⟨hc 0 _ rfl, hc 1 _ rfl, hc 2 _ rfl, hc 3 _ rfl, hc 4 _ rfl, hc 5 _ rfl, hc 6 _ rfl, hc 7 _ rfl⟩
theorem args8 {zs : List Int} (h : zs.length = 8) (hw : ∀ z ∈ zs, (Lit.int .u8 z).wf = true) : ∃ l : List UInt8, l.length = 8 ∧ zs.map (Value.int .u8) = bvs l := by
  refine ⟨zs.map fun z => UInt8.ofNat z.toNat, by simpa using h, ?_⟩
  unfold bvs
  rw [List.map_map]
  apply List.map_congr_left
  intro z hz
  obtain ⟨h0, h1⟩ := bounds_u8 (hw z hz)
  have := bv_lit z.toNat (by omega)
  rw [Int.toNat_of_nonneg h0] at this
  exact this
theorem seeds2 {zs : List Int} (h : zs.length = 2) (hw : ∀ z ∈ zs, (Lit.int .u64 z).wf = true) : ∃ s t : Nat, s < Ky.M64 ∧ t < Ky.M64 ∧ zs.map (Value.int .u64) = [.int .u64 (s : Int), .int .u64 (t : Int)] := by
  match zs, h with
  | [x, y], _ =>
    obtain ⟨h0, h1⟩ := bounds_u64 (hw x (by simp))
    obtain ⟨h2, h3⟩ := bounds_u64 (hw y (by simp))
    unfold Ky.M64
    exact ⟨x.toNat, y.toNat, by omega, by omega, by simp; omega⟩

set_option maxRecDepth 100000 in
set_option maxHeartbeats 8000000 in
theorem walk (z0 : List Int) (z1 : List Int) (a2 : Int) (z3 : List Int) (z4 : List Int) (w : World) (l0 : z0.length = 8) (g0 : ∀ z ∈ z0, (Lit.int .u8 z).wf = true) (l1 : z1.length = 8) (g1 : ∀ z ∈ z1, (Lit.int .u8 z).wf = true) (w2 : (Lit.int .u8 a2).wf = true) (l3 : z3.length = 2) (g3 : ∀ z ∈ z3, (Lit.int .u64 z).wf = true) (l4 : z4.length = 8) (g4 : ∀ z ∈ z4, (Lit.int .u8 z).wf = true) :
    Calls Try.prog 7 #[.agg (z0.map (Value.int .u8)).toArray, .agg (z1.map (Value.int .u8)).toArray, .int .u8 a2, .agg (z3.map (Value.int .u64)).toArray, .agg (z4.map (Value.int .u8)).toArray] w fun e w' => e = .returned (.bool true) ∧ Below w.heap.size w w' := by
  obtain ⟨i0, hi0, hz0, hz1, hz2⟩ := info_parts byte_info
  obtain ⟨a, la, ea⟩ := args8 l0 g0
  obtain ⟨b, lb, eb⟩ := args8 l1 g1
  obtain ⟨d, ld, ed⟩ := args8 l4 g4
  obtain ⟨s, t, hs, ht, es⟩ := seeds2 l3 g3
  rw [ea, eb, ed, es]
  obtain ⟨p2, q2⟩ := bounds_u8 w2
  obtain ⟨k, hk⟩ := Int.eq_ofNat_of_zero_le (by omega : 0 ≤ 1 + a2 % 8)
  have hk1 : 1 ≤ k := by omega
  have hk8 : k ≤ 8 := by omega
  clear l0 g0 l1 g1 w2 l3 g3 l4 g4 ea eb ed es
  have HA := Lib.hid la
  have HB := Lib.hid lb
  have HD := Lib.hid ld
  clear la lb ld
  go_enter Try.func7, Try.ntmps7
  go_wp2_with fail
  have HK := Lib.hid (HH.new w a b d s t 68 69)
  have HBl := Lib.hid ((((((Below.refl w.heap.size w).alloc (Nat.le_refl _) (.cells (bvs a).toArray 68)).alloc (by simp) (.cells (bvs b).toArray 68)).alloc (by simp; omega) (.cells #[.int .u64 (s : Int), .int .u64 (t : Int)] 69)).alloc (by simp; omega) (.cells (bvs d).toArray 68)))
  generalize World.alloc _ _ = W at *
  generalize w.heap.size + 1 + 1 + 1 = T at *
  generalize w.heap.size + 1 + 1 = R at *
  generalize w.heap.size + 1 = Q at *
  have HBl : Hid (Below w.heap.size w W) := HBl
  obtain ⟨P, hP⟩ : ∃ P, w.heap.size = P := ⟨_, rfl⟩
  rw [hP] at HK ⊢
  have sP := arr_h P k hk8
  have sQ := arr_h Q k hk8
  go_quiet (fail)
  clear sP sQ
  generalize hW1 : World.drewN W _ = W1
  replace HK : Hid (HH W1 P Q R T a b d s t) := Lib.hid (by rw [← hW1]; exact HK.out.drewN _)
  replace HBl : Hid (Below w.heap.size w W1) := Lib.hid (by rw [← hW1]; exact bdrewN4 HBl.out _)
  clear hW1
  have lx : (a.take k).length = k := by rw [List.length_take, HA.out]; omega
  have ly : (b.take k).length = k := by rw [List.length_take, HB.out]; omega
  have hx : Bs W1 W1.heap.size (.slice (some ⟨P, 0, none⟩) k 8) (a.take k) := ⟨_, 8, by rw [lx], by omega, by rw [bvs_take]; exact HK.out.ra.take k⟩
  have hy : Bs W1 W1.heap.size (.slice (some ⟨Q, 0, none⟩) k 8) (b.take k) := ⟨_, 8, by rw [ly], by omega, by rw [bvs_take]; exact HK.out.rb.take k⟩
  have HXF : Hid (∀ w' : World, Rd w' w'.heap.size (some ⟨P, 0, none⟩) (bvs a) → Bs w' w'.heap.size (.slice (some ⟨P, 0, none⟩) k 8) (a.take k)) := Lib.hid (fun w' h => ⟨_, 8, by rw [lx], by omega, by rw [bvs_take]; exact h.take k⟩)
  have m1 := Ky.hash_rows (x := a.take k) (y := b.take k) hs (by omega) (by omega) (by omega)
  have m2 := Ky.hash_seeds (x := a.take k) hs ht (by omega) (by omega)
  have m3 := Ky.hash_ahead hs HA.out HB.out HD.out
  have bx : (a.take k).length ≤ 140737488355328 := by omega
  have byy : (b.take k).length ≤ 140737488355328 := by omega
  have h64 : s < 18446744073709551616 := hs
  have t64 : t < 18446744073709551616 := ht
  generalize a.take k = x at *
  generalize b.take k = y at *
  obtain ⟨h1, e1⟩ : ∃ h, Ky.hash s x = h := ⟨_, rfl⟩
  obtain ⟨h2, e2⟩ : ∃ h, Ky.hash s y = h := ⟨_, rfl⟩
  obtain ⟨h3, e3⟩ : ∃ h, Ky.hash t x = h := ⟨_, rfl⟩
  obtain ⟨h4, e4⟩ : ∃ h, Ky.hash s (a ++ d) = h := ⟨_, rfl⟩
  obtain ⟨h5, e5⟩ : ∃ h, Ky.hash s (b ++ d) = h := ⟨_, rfl⟩
  rw [e1, e2] at m1
  rw [e1, e3] at m2
  rw [e4, e5] at m3
  obtain ⟨q, hq, hw⟩ : ∃ q, (x == y) = q ∧ ((q = true ∧ h1 = h2) ∨ (q = false ∧ ((h1 : Int) == (h2 : Int)) = false)) := by
    by_cases h : x = y
    · exact ⟨true, by simp [h], .inl ⟨rfl, m1.2 h⟩⟩
    · exact ⟨false, by simp [h], .inr ⟨rfl, by simp; exact fun h' => h (m1.1 (by omega))⟩⟩
  have E1 := Lib.hid e1
  have E2 := Lib.hid e2
  have E3 := Lib.hid e3
  have E4 := Lib.hid e4
  have E5 := Lib.hid e5
  have M2 := Lib.hid m2
  have M3 := Lib.hid m3
  have HX := Lib.hid hx
  have HY := Lib.hid hy
  have HQ := Lib.hid hq
  clear m1 m2 m3 hx hy e1 e2 e3 e4 e5 hq lx ly
  have c0 := HK.out.c0
  have c1 := HK.out.c1
  have k1 : ∀ n, Calls Try.prog 33 #[.int .u64 (s : Int), .slice (some ⟨P, 0, none⟩) k 8] (W1.drewN n) fun e w' => e = .returned (.int .u64 (h1 : Int)) ∧ W1.drewN n = w' := fun n => by
    have := hash_any _ x W1.heap.size (W1.drewN n) s (show Bs (W1.drewN n) _ _ _ from HX.out) bx h64
    rw [E1.out] at this
    exact this
  have k2 : ∀ n, Calls Try.prog 33 #[.int .u64 (s : Int), .slice (some ⟨Q, 0, none⟩) k 8] (W1.drewN n) fun e w' => e = .returned (.int .u64 (h2 : Int)) ∧ W1.drewN n = w' := fun n => by
    have := hash_any _ y W1.heap.size (W1.drewN n) s (show Bs (W1.drewN n) _ _ _ from HY.out) byy h64
    rw [E2.out] at this
    exact this
  have k3 : ∀ n, Calls Try.prog 29 #[.slice (some ⟨P, 0, none⟩) k 8, .slice (some ⟨Q, 0, none⟩) k 8] (W1.drewN n) fun e w' => e = .returned (.bool q) ∧ W1.drewN n = w' := fun n => by
    have := equal_b _ _ x y W1.heap.size W1.heap.size (W1.drewN n) (show Bs (W1.drewN n) _ _ _ from HX.out) (show Bs (W1.drewN n) _ _ _ from HY.out)
    rw [HQ.out] at this
    exact this
  have K1 := Lib.hid k1
  have K2 := Lib.hid k2
  have K3 := Lib.hid k3
  clear k1 k2 k3
  rcases hw with ⟨rfl, rfl⟩ | ⟨rfl, t1⟩
  all_goals
    go_wp2_with fail
    go_quiet ((first | (go_at_call 33; (with_reducible exact quiet_sym (K1.out _))) | (go_at_call 33; (with_reducible exact quiet_sym (K2.out _))) | (go_at_call 29; (with_reducible exact quiet_sym (K3.out _)))))
    go_wp2_with fail
    generalize hW2 : World.drewN W1 _ = W2
    replace HK : Hid (HH W2.drew P Q R T a b d s t) := Lib.hid (by rw [← hW2]; exact (HK.out.drewN _).drewN 1)
    replace HBl : Hid (Below w.heap.size w W2.drew) := Lib.hid (by rw [← hW2]; exact bdrewN4 (bdrewN4 HBl.out _) 1)
    clear hW2 K1 K2 K3 HX HY HQ E2 c0 c1
    have sP := arr_all P
    have sQ := arr_all Q
    have sT := arr_all T
    generalize hW3 : World.drew W2 = W3 at HK HBl
    refine wp_region_noPanic ?_
    refine wp_region_held_drew (S := fun _ => True) (by kernel_rfl) trivial (fun hHeld => ?_)
    rw [hW3]
    clear hW3
    refine wpAnyH_take (i := 0) (v := ?_) opAt_0 (by kernel_rfl) (by kernel_rfl) (by kernel_rfl) (fun _ _ _ h => h) (Or.inl ⟨by rfl, ?_⟩) trivial ?_
    rotate_left
    · (intro w hSw; go_simp; try with_reducible rfl)
    try simp only [Act.put, List.setIfInBounds_toArray, List.set_cons_zero, List.set_cons_succ]
    refine wpAnyH_take (i := 2) (v := ?_) opAt_2 (by kernel_rfl) (by kernel_rfl) (by kernel_rfl) (fun _ _ _ h => h) (Or.inl ⟨by rfl, ?_⟩) trivial ?_
    rotate_left
    · (intro w hSw; go_simp; try with_reducible rfl)
    try simp only [Act.put, List.setIfInBounds_toArray, List.set_cons_zero, List.set_cons_succ]
    refine wpAnyH_take (i := 4) (v := ?_) opAt_4 (by kernel_rfl) (by kernel_rfl) (by kernel_rfl) (fun _ _ _ h => h) (Or.inl ⟨by rfl, ?_⟩) trivial ?_
    rotate_left
    · (intro w hSw; go_simp; try with_reducible rfl)
    try simp only [Act.put, List.setIfInBounds_toArray, List.set_cons_zero, List.set_cons_succ]
    refine wpAnyH_take (i := 6) (v := ?_) opAt_6 (by kernel_rfl) (by kernel_rfl) (by kernel_rfl) (fun _ _ _ h => h) (Or.inl ⟨by rfl, ?_⟩) trivial ?_
    rotate_left
    · (intro w hSw; go_simp; try with_reducible rfl)
    try simp only [Act.put, List.setIfInBounds_toArray, List.set_cons_zero, List.set_cons_succ]
    refine wpAnyH_ready (rs := [1]) (by kernel_rfl) (by simp) ?_
    refine AllReadyH.cons rfl (fun K hK => ?_) AllReadyH.nil
    refine step_append_rd (o := (⟨some 38, _, _, _, _, _⟩ : Oper)) _ rfl (.const (.slice none 0 0)) (.tmp 37) 53 rfl W3.heap.size 5 i0 (.int .u8 0) 1 1 Try.underlying53 hi0 hz0 hz1 hz2 rfl (by omega) (.slice none 0 0) 0 [] rfl (World.ownsRow_nil _ _ _ _) W3.heap.size (some ⟨P, 0, none⟩) 8 8 (bvs a) rfl (by rw [bvs_length, HA.out]) HK.out.ra (bvs_one _) (by unfold maxLen; omega) (by omega) (Nat.le_refl _) ?_
    intro v1 w1 hown1 hb1 _
    have HO1 := Lib.hid hown1
    have HK1 := Lib.hid (HK.out.on hb1)
    have HB1 := Lib.hid hb1
    have hs1 := hb1.size
    clear hown1 hb1
    dsimp only [Act.put, Array.getElem_toList, List.getElem_toArray, List.getElem_cons_succ, List.getElem_cons_zero]
    refine hK.out _ _ trivial (fun _ => ?_)
    try simp only [Act.put, List.setIfInBounds_toArray, List.set_cons_zero, List.set_cons_succ]
    clear hK K
    refine wpAnyH_ready (rs := [3]) (by kernel_rfl) (by simp) ?_
    refine AllReadyH.cons rfl (fun K hK => ?_) AllReadyH.nil
    refine step_append_rd (o := (⟨some 40, _, _, _, _, _⟩ : Oper)) _ rfl (.tmp 38) (.tmp 39) 53 rfl W3.heap.size 5 i0 (.int .u8 0) 1 1 Try.underlying53 hi0 hz0 hz1 hz2 rfl (by omega) v1 (0 + 8) ([] ++ bvs a) rfl HO1.out w1.heap.size (some ⟨T, 0, none⟩) 8 8 (bvs d) rfl (by rw [bvs_length, HD.out]) HK1.out.rd (bvs_one _) (by unfold maxLen; omega) (by omega) hs1 ?_
    intro v2 w2 hown2 hb2 _
    have HO2 := Lib.hid (show Bs w2 w2.heap.size v2 (a ++ d) from Bs.of_own (n := 0 + 8 + 8) (by rw [bvs_append]; exact hown2))
    have HB2 := Lib.hid (HB1.out.trans hb2)
    have HK2 := Lib.hid (HK.out.on HB2.out)
    have hs2 := HB2.out.size
    clear hown2 hb2 HO1 HB1 HK1
    dsimp only [Act.put, Array.getElem_toList, List.getElem_toArray, List.getElem_cons_succ, List.getElem_cons_zero]
    refine hK.out _ _ trivial (fun _ => ?_)
    try simp only [Act.put, List.setIfInBounds_toArray, List.set_cons_zero, List.set_cons_succ]
    clear hK K
    refine wpAnyH_ready (rs := [5]) (by kernel_rfl) (by simp) ?_
    refine AllReadyH.cons rfl (fun K hK => ?_) AllReadyH.nil
    refine step_append_rd (o := (⟨some 42, _, _, _, _, _⟩ : Oper)) _ rfl (.const (.slice none 0 0)) (.tmp 41) 53 rfl w2.heap.size 5 i0 (.int .u8 0) 1 1 Try.underlying53 hi0 hz0 hz1 hz2 rfl (by omega) (.slice none 0 0) 0 [] rfl (World.ownsRow_nil _ _ _ _) w2.heap.size (some ⟨Q, 0, none⟩) 8 8 (bvs b) rfl (by rw [bvs_length, HB.out]) HK2.out.rb (bvs_one _) (by unfold maxLen; omega) (by omega) (Nat.le_refl _) ?_
    intro v3 w3 hown3 hb3 _
    have HO3 := Lib.hid hown3
    have HK3 := Lib.hid (HK2.out.on hb3)
    have HB3 := Lib.hid hb3
    have hs3 := hb3.size
    clear hown3 hb3
    dsimp only [Act.put, Array.getElem_toList, List.getElem_toArray, List.getElem_cons_succ, List.getElem_cons_zero]
    refine hK.out _ _ trivial (fun _ => ?_)
    try simp only [Act.put, List.setIfInBounds_toArray, List.set_cons_zero, List.set_cons_succ]
    clear hK K
    refine wpAnyH_ready (rs := [7]) (by kernel_rfl) (by simp) ?_
    refine AllReadyH.cons rfl (fun K hK => ?_) AllReadyH.nil
    refine step_append_rd (o := (⟨some 44, _, _, _, _, _⟩ : Oper)) _ rfl (.tmp 42) (.tmp 43) 53 rfl w2.heap.size 5 i0 (.int .u8 0) 1 1 Try.underlying53 hi0 hz0 hz1 hz2 rfl (by omega) v3 (0 + 8) ([] ++ bvs b) rfl HO3.out w3.heap.size (some ⟨T, 0, none⟩) 8 8 (bvs d) rfl (by rw [bvs_length, HD.out]) HK3.out.rd (bvs_one _) (by unfold maxLen; omega) (by omega) hs3 ?_
    intro v4 w4 hown4 hb4 _
    have HO4 := Lib.hid (show Bs w4 w4.heap.size v4 (b ++ d) from Bs.of_own (n := 0 + 8 + 8) (by rw [bvs_append]; exact hown4))
    have HB4 := Lib.hid (HB3.out.trans hb4)
    have HO2' := Lib.hid (Bs.keepB HO2.out HB4.out)
    have HK4 := Lib.hid (HK2.out.on HB4.out)
    have HB5 := Lib.hid (HB2.out.trans (HB4.out.mono hs2))
    clear hown4 hb4 HO3 HB3 HK3 HB4 HK2 HB2 HO2
    dsimp only [Act.put, Array.getElem_toList, List.getElem_toArray, List.getElem_cons_succ, List.getElem_cons_zero]
    refine hK.out _ _ trivial (fun _ => ?_)
    try simp only [Act.put, List.setIfInBounds_toArray, List.set_cons_zero, List.set_cons_succ]
    clear hK K
    refine wpAnyH_take (i := 8) (v := ?_) opAt_8 (by kernel_rfl) (by kernel_rfl) (by kernel_rfl) (fun _ _ _ h => h) (Or.inl ⟨by rfl, ?_⟩) trivial ?_
    rotate_left
    · (intro w hSw; go_simp; try with_reducible rfl)
    try simp only [Act.put, List.setIfInBounds_toArray, List.set_cons_zero, List.set_cons_succ]
    refine wpAnyH_take (i := 9) (v := ?_) opAt_9 (by kernel_rfl) (by kernel_rfl) (by kernel_rfl) (fun _ _ _ h => h) (Or.inl ⟨by rfl, ?_⟩) trivial ?_
    rotate_left
    · (intro w hSw; go_simp; try with_reducible rfl)
    try simp only [Act.put, List.setIfInBounds_toArray, List.set_cons_zero, List.set_cons_succ]
    refine wpAnyH_done (by kernel_rfl) ?_ _
    refine NoPanic.normal ?_
    clear sP sQ sT
    obtain ⟨q2, hq2, hw2⟩ : ∃ q, (a == b) = q ∧ ((q = true ∧ h4 = h5) ∨ (q = false ∧ ((h4 : Int) == (h5 : Int)) = false)) := by
      by_cases h : a = b
      · exact ⟨true, by simp [h], .inl ⟨rfl, M3.out.2 h⟩⟩
      · exact ⟨false, by simp [h], .inr ⟨rfl, by simp; exact fun h' => h (M3.out.1 (by omega))⟩⟩
    have K4 : Hid (∀ n, Calls Try.prog 33 #[.int .u64 (s : Int), v2] (w4.drewN n) fun e w' => e = .returned (.int .u64 (h4 : Int)) ∧ w4.drewN n = w') := Lib.hid (fun n => by
      have := hash_any _ (a ++ d) w4.heap.size (w4.drewN n) s (show Bs (w4.drewN n) _ _ _ from HO2'.out) (by rw [List.length_append, HA.out, HD.out]; omega) h64
      rw [E4.out] at this
      exact this)
    have K5 : Hid (∀ n, Calls Try.prog 33 #[.int .u64 (s : Int), v4] (w4.drewN n) fun e w' => e = .returned (.int .u64 (h5 : Int)) ∧ w4.drewN n = w') := Lib.hid (fun n => by
      have := hash_any _ (b ++ d) w4.heap.size (w4.drewN n) s (show Bs (w4.drewN n) _ _ _ from HO4.out) (by rw [List.length_append, HB.out, HD.out]; omega) h64
      rw [E5.out] at this
      exact this)
    have EQ := fun w => eql_arr8 a b HA.out HB.out w
    rw [hq2] at EQ
    have HEQ := Lib.hid EQ
    clear EQ
    have RA := Lib.hid HK4.out.ra
    have RB := Lib.hid HK4.out.rb
    have HQ2 := Lib.hid hq2
    have c0 := HK4.out.c0
    clear hq2
    rcases hw2 with ⟨rfl, rfl⟩ | ⟨rfl, t2⟩
    all_goals
      go_wp2_with fail
      obtain ⟨a0, a1, a2, a3, a4, a5, a6, a7, ea⟩ := eight HA.out
      obtain ⟨b0, b1, b2, b3, b4, b5, b6, b7, eb⟩ := eight HB.out
      have EQ := HEQ.out
      rw [ea, eb] at EQ
      obtain ⟨x0, x1, x2, x3, x4, x5, x6, x7⟩ := cells8 (by rw [← ea]; exact RA.out)
      obtain ⟨y0, y1, y2, y3, y4, y5, y6, y7⟩ := cells8 (by rw [← eb]; exact RB.out)
      clear ea eb
      simp only [bvs, List.map_cons, List.map_nil, bv] at EQ
      go_quiet ((first | (go_at_call 33; (with_reducible exact quiet_sym (K4.out _))) | (go_at_call 33; (with_reducible exact quiet_sym (K5.out _)))))
      go_wp2_with fail
      clear x0 x1 x2 x3 x4 x5 x6 x7 y0 y1 y2 y3 y4 y5 y6 y7 EQ c0 K4 K5
      generalize hW5 : World.drewN w4 _ = W5
      replace HK4 : Hid (HH W5.drew P Q R T a b d s t) := Lib.hid (by rw [← hW5]; exact (HK4.out.drewN _).drewN 1)
      replace HB5 : Hid (Below w.heap.size w W5.drew) := Lib.hid (by rw [← hW5]; exact bdrewN4 (bdrewN4 (HBl.out.trans (HB5.out.mono HBl.out.size)) _) 1)
      clear hW5 HO2' HO4
      have C1 : Hid (Calls Try.prog 33 #[.int .u64 (s : Int), .slice (some ⟨P, 0, none⟩) k 8] W5.drew fun e w' => e = .returned (.int .u64 (h1 : Int)) ∧ w' = W5.drew) := Lib.hid (by
        have := hash_any _ x _ W5.drew s (HXF.out _ HK4.out.ra) bx h64
        rw [E1.out] at this
        exact this.mono fun _ _ ⟨he, hw⟩ => ⟨he, hw.symm⟩)
      have C3 : Hid (Calls Try.prog 33 #[.int .u64 (t : Int), .slice (some ⟨P, 0, none⟩) k 8] W5.drew fun e w' => e = .returned (.int .u64 (h3 : Int)) ∧ w' = W5.drew) := Lib.hid (by
        have := hash_any _ x _ W5.drew t (HXF.out _ HK4.out.ra) bx t64
        rw [E3.out] at this
        exact this.mono fun _ _ ⟨he, hw⟩ => ⟨he, hw.symm⟩)
      have hc0 := HK4.out.c0
      have hc1 := HK4.out.c1
      have hw3 : (s = t ∧ h1 = h3) ∨ (((s : Int) == (t : Int)) = false ∧ ((h1 : Int) == (h3 : Int)) = false) := by
        by_cases h : s = t
        · exact .inl ⟨h, M2.out.2 h⟩
        · exact .inr ⟨by simp; omega, by simp; exact fun h' => h (M2.out.1 (by omega))⟩
      rcases hw3 with ⟨rfl, rfl⟩ | ⟨t3, t4⟩
      all_goals
        refine wp_region_still_tail 16 (by kernel_rfl) (by kernel_rfl) ?_
        simp only [List.take_succ_cons, List.take_zero, List.drop_succ_cons, List.drop_zero]
        repeat still_step
        still_call C1.out
        repeat still_step
        still_call C3.out
        repeat still_step
        refine wpStill_nil ?_
        go_wp2_with fail
        refine (knows4 _).mono ?_
        rintro e w6 ⟨rfl, b6⟩
        go_wp2_with fail
        go_ret
        exact ⟨rfl, HB5.out.trans (b6.mono HB5.out.size)⟩
end Go.Proofs.Ytaekndhchdpobaa.keyHashes
