
/-
  Layer 4: the chapter's rows: they are answered as they stand.
-/
import Derived.Test.YtaekndhchdpobaaKyRep
import Derived.Test.YtaekndhchdpobaaKyAfter
import Derived.Lib.SlBytesConst
import Derived.ArgAppend
import Derived.BigQuiet
set_option linter.unusedVariables false
set_option linter.unusedSimpArgs false
namespace Go.Proofs.Ytaekndhchdpobaa
open Go.RowKit

theorem bs_new (w : World) (l : List UInt8) (C : Array Value) (t : TypeId) (hC : C = (bvs l).toArray) : Bs (w.alloc (.cells C t)) (w.alloc (.cells C t)).heap.size (.slice (some ⟨w.heap.size, 0, none⟩) l.length l.length) l := by
  subst hC
  refine ⟨_, _, rfl, Nat.le_refl _, fun _ => ⟨w.heap.size, 0, rfl, by simp, fun j u hu => ?_⟩⟩
  rw [Nat.zero_add, World.cell?_alloc_new]
  simpa using hu

theorem Bs.keepB {w w' : World} {v : Value} {l : List UInt8} (h : Bs w w.heap.size v l) (hb : Below w.heap.size w w') : Bs w' w'.heap.size v l := by
  obtain ⟨A, c, rfl, hc, hr⟩ := h
  exact ⟨A, c, rfl, hc, (hr.below hb (Nat.le_refl _)).mono hb.size⟩
theorem bdrewN4 {n : Nat} {w w' : World} (h : Below n w w') (q : Nat) : Below n w (w'.drewN q) := ⟨h.os, h.tape, h.output, h.size, h.block⟩
theorem quiet_sym {P : Program} {f : FuncId} {args : Array Value} {w : World} {n : Nat} {v : Value}
    (h : Calls P f args (w.drewN n) fun e w' => e = .returned v ∧ w.drewN n = w') : Calls P f args (w.drewN n) fun e w'' => e = .returned v ∧ ∃ m, w'' = w.drewN m :=
  h.mono fun _ _ ⟨he, hm⟩ => ⟨he, n, hm.symm⟩
theorem bdrew4 {n : Nat} {w w' : World} (h : Below n w w') : Below n w w'.drew := ⟨h.os, h.tape, h.output, h.size, h.block⟩
theorem bnew4 (w : World) (o : Obj) : Below w.heap.size w (w.alloc o) := (Below.refl _ _).alloc (Nat.le_refl _) _
theorem bs_newM (w : World) (l : List UInt8) (C : Array Value) (t : TypeId) (fr : Nat × Nat) (hC : C = (bvs l).toArray) : Bs (w.alloc (.cells C t fr)) (w.alloc (.cells C t fr)).heap.size (.slice (some ⟨w.heap.size, 0, none⟩) l.length l.length) l := by
  subst hC
  refine ⟨_, _, rfl, Nat.le_refl _, fun _ => ⟨w.heap.size, 0, rfl, by simp, fun j u hu => ?_⟩⟩
  rw [Nat.zero_add, World.cell?_alloc_mark]
  simpa using hu
def la : List UInt8 := List.replicate 62 97
theorem la_len : la.length = 62 := by decide

set_option maxRecDepth 100000 in
set_option maxHeartbeats 8000000 in
theorem knows4 (w : World) : Calls Try.prog 26 #[] w fun e w' => e = .returned (.bool true) ∧ Below w.heap.size w w' := by
  obtain ⟨i0, hi0, hz0, hz1, hz2⟩ := info_parts byte_info
  have kc := fun (w : World) (C : Array Value) (n c : Nat) => Lib.run_convert_bytes_const (P := Try.prog) w 53 5 C n c Try.underlying53 Try.underlying5
  go_enter Try.func26, Try.ntmps26
  go_wp2_with fail
  have hb0 := bnew4 w (.cells #[.int .u8 97] 5)
  have B0 := Lib.hid (bs_new w [97] #[.int .u8 97] 5 rfl)
  have HB := Lib.hid hb0
  clear hb0
  generalize w.alloc (.cells #[.int .u8 97] 5) = w1 at *
  refine (rep_any 97 63 _ _ _ B0.out (by omega) (by omega) (Nat.le_refl _)).mono ?_
  rintro e w2 ⟨A, rfl, hr, hb⟩
  have HB2 := Lib.hid (HB.out.trans (hb.mono HB.out.size))
  obtain ⟨b, o, rfl, hbl, hc⟩ := hr (by simp [bvs])
  have HC : Hid (∀ b', some (⟨b, o, none⟩ : Addr) = some b' → ∀ j u, (bvs (List.replicate 63 97))[j]? = some u → (w2.alloc (.cells #[.int .u8 255] 5)).cell? (b'.add j) = some u) := Lib.hid (fun b' e j u hu => by
    injection e with e
    subst e
    rw [add_none]
    exact (World.cell?_alloc_lt _ _ _ (show b < w2.heap.size from hbl)).trans (hc j u hu))
  have HX : Hid (∀ j u, ([.int .u8 255] : List Value)[j]? = some u → (w2.alloc (.cells #[.int .u8 255] 5)).cell? ((⟨w2.heap.size, 0, none⟩ : Addr).add j) = some u) := Lib.hid (fun j u hu => by
    rw [add_none, Nat.zero_add, World.cell?_alloc_new]
    simpa using hu)
  have hz := HB2.out.size
  have hb3 := HB2.out.trans ((bnew4 w2 (.cells #[.int .u8 255] 5)).mono hz)
  have HB3 := Lib.hid hb3
  clear HB B0 hr hb hc hb3 HB2
  go_wp2_with (at_builtin; (refine wpList_append_grows _ rfl (.tmp 9) (.tmp 10) 53 rfl 5 i0 (.int .u8 0) 1 1 Try.underlying53 hi0 hz0 hz1 hz2 rfl (by omega) (some ⟨b, o, none⟩) 63 63 (bvs (List.replicate 63 97)) rfl (by intro h; cases h) (by simp [bvs]) HC.out ⟨w2.heap.size, 0, none⟩ 1 1 [.int .u8 255] rfl rfl HX.out (by intro u hu; simp at hu; subst hu; rfl) (by omega) (by unfold maxLen; omega) (by omega) ?_); intro v3 w3 hown3 hg3)
  have hs3 : Bs w3 w3.heap.size v3 (List.replicate 63 97 ++ [255]) := Bs.of_own (base := _) (n := 64) (by rw [bvs_append]; exact hown3)
  have hb4 := HB3.out.trans ((show Below _ _ w3 from (Below.refl _ _).grown hg3 (Nat.le_refl _) (by simp)).mono HB3.out.size)
  have HS3 := Lib.hid hs3
  have HB4 := Lib.hid hb4
  clear hs3 hb4 hown3 hg3
  go_wp2_with fail
  have h0 := bs_newM w3 [97, 98] #[.int .u8 97, .int .u8 98] 5 (2, 3) rfl
  have b0 := bnew4 w3 (.cells #[.int .u8 97, .int .u8 98] 5 (2, 3))
  have HS4 := Lib.hid (show Bs (w3.alloc _) _ v3 _ from Bs.keepB HS3.out b0)
  refine (after_short _ [97, 98] _ h0 (by decide) (by decide)).mono ?_
  rintro e w5 ⟨r5, rfl, hs5, hb5⟩
  have b5 := b0.trans (hb5.mono b0.size)
  have HS5 := Lib.hid (Bs.keepB HS3.out b5)
  have HR5 := Lib.hid hs5
  have HB5 := Lib.hid (HB4.out.trans (b5.mono HB4.out.size))
  clear h0 b0 HS4 hs5 hb5 b5 HS3 HB4
  go_wp2_with fail
  refine (after_long _ (List.replicate 62 97) 97 1 _ (by exact HS5.out) (by decide) (by decide)).mono ?_
  rintro e w6 ⟨r6, rfl, hs6, hb6⟩
  have HS6 := Lib.hid (Bs.keepB HS5.out hb6)
  have HR6 := Lib.hid (Bs.keepB HR5.out hb6)
  have HT6 := Lib.hid hs6
  have HB6 := Lib.hid (HB5.out.trans (hb6.mono HB5.out.size))
  clear HS5 HR5 hs6 hb6 HB5
  go_wp2_with fail
  have h0 := bs_new w6 [255] #[.int .u8 255] 5 rfl
  have b0 := bnew4 w6 (.cells #[.int .u8 255] 5)
  have HS0 := Lib.hid h0
  refine (rep_any 255 64 _ _ _ HS0.out (by omega) (by omega) (Nat.le_refl _)).mono ?_
  rintro e w7 ⟨A7, rfl, hr7, hb7⟩
  have b7 := b0.trans (hb7.mono b0.size)
  have HS7 := Lib.hid (Bs.keepB HS6.out b7)
  have HR7 := Lib.hid (Bs.keepB HR6.out b7)
  have HT7 := Lib.hid (Bs.keepB HT6.out b7)
  have HB7 := Lib.hid (HB6.out.trans (b7.mono HB6.out.size))
  have HU7 : Hid (Bs w7 w7.heap.size (.slice A7 64 64) (List.replicate 64 255)) := Lib.hid ⟨A7, 64, by rw [List.length_replicate], by rw [List.length_replicate]; exact Nat.le_refl _, hr7⟩
  clear h0 b0 HS0 hr7 hb7 b7 HS6 HR6 HT6 HB6
  go_wp2_with fail
  refine (after_full _ _ _ HU7.out).mono ?_
  rintro e w8 ⟨rfl, rfl⟩
  go_wp2_with fail
  obtain ⟨A3, c3, rfl, hc3, hr3⟩ := HS7.out
  obtain ⟨A5, c5, rfl, hc5, hr5⟩ := HR7.out
  obtain ⟨A6, c6, rfl, hc6, hr6⟩ := HT7.out
  have l3 : (List.replicate 63 (97 : UInt8) ++ [255]).length = 64 := by decide
  have l6 : (List.replicate 62 (97 : UInt8) ++ [97 + 1]).length = 63 := by decide
  obtain ⟨A', c', hrun, hkc, hrd⟩ := cut_h A3 64 c3 62 (by omega) (by rw [l3] at hc3; exact hc3)
  have hrun2 : ∀ w, (Instr.sliceAt 53 (.slice A3 64 c3) none (some (.int .i64 62)) none).run Try.prog w = .ok (.slice A' 62 c') w := hrun
  clear hrun
  have hr' := hrd w7 w7.heap.size _ l3 hr3
  have v5 := fun k => convert_rd (P := Try.prog) (hr5.drewN k) c5 53 5 9 Try.underlying53 Try.underlying5 Try.underlying9
  have v6 := fun k => convert_rd (P := Try.prog) (hr6.drewN k) c6 53 5 9 Try.underlying53 Try.underlying5 Try.underlying9
  have v3 := fun k => convert_rd (P := Try.prog) (hr'.drewN k) c' 53 5 9 Try.underlying53 Try.underlying5 Try.underlying9
  have l3' : ((List.replicate 63 (97 : UInt8) ++ [255]).take 62).length = 62 := by decide
  rw [l6] at v6
  rw [l3'] at v3
  have e5 : (⟨([97, 98] ++ [0] : List UInt8).toArray⟩ : ByteArray) = ⟨#[97, 98, 0]⟩ := rfl
  rw [e5] at v5
  rw [l3, l6]
  obtain ⟨S6, h6⟩ : ∃ S, (⟨(List.replicate 62 (97 : UInt8) ++ [97 + 1]).toArray⟩ : ByteArray) = S := ⟨_, rfl⟩
  obtain ⟨S3, h3⟩ : ∃ S, (⟨((List.replicate 63 (97 : UInt8) ++ [255]).take 62).toArray⟩ : ByteArray) = S := ⟨_, rfl⟩
  have h36 : S3 ++ ⟨#[98]⟩ = S6 := by rw [← h3, ← h6]; decide
  have hS3 : S3.size = 62 := by rw [← h3]; decide
  have vadd : ∀ w, (Op.stringOp .add S3 ⟨#[98]⟩).run Try.prog w = .ok (.string S6) w := fun w => by
    rw [run_string_add_sum _ _ _ (by rw [hS3]; decide), h36]
  rw [h6] at v6
  rw [h3] at v3
  clear hS3 h36 h6 h3 e5 l3' l6 l3 hr' hrd hr3 hr5 hr6 HS7 HR7 HT7 HU7 hc3 hc5 hc6
  simp only [List.length_append, List.length_cons, List.length_nil, Nat.reduceAdd, Nat.zero_add] at v5 ⊢
  go_quiet ((first | (go_at_call 35; exact quiet_sym (mayName_any _ _ true (by decide) (by decide))) | (go_at_call 35; exact quiet_sym (mayName_any _ _ false (by decide) (by decide)))))
  go_wp2_with fail
  go_ret
  exact ⟨rfl, bdrewN4 HB7.out _⟩
end Go.Proofs.Ytaekndhchdpobaa
