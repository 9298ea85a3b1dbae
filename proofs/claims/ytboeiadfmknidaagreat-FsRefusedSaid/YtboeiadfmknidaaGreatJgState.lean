
/-
  Layer 7: what a file system holds ('state'), as a row of names and bytes.
-/
import Derived.Test.YtboeiadfmknidaaGreatJfDoes
import Derived.Test.YtboeiadfmknidaaGreatJxCrash
set_option linter.unusedVariables false
set_option linter.unusedSimpArgs false
namespace Go.Proofs.YtboeiadfmknidaaGreat
open Go.RowKit Go.Maps

def strB (b : List UInt8) : ByteArray := ⟨b.toArray⟩
/-- names and bytes, one behind the other -/
def stN (g : Nat → FSt) (l : List Ent) : List ByteArray := l.flatMap fun x => [x.1, strB (g x.2).bytes]
theorem stN_take (g : Nat → FSt) {l : List Ent} {j : Nat} {x : Ent} (hx : l[j]? = some x) : stN g (l.take (j + 1)) = stN g (l.take j) ++ [x.1, strB (g x.2).bytes] := by
  unfold stN
  rw [take_next6 hx, List.flatMap_append]
  simp
theorem stN_length (g : Nat → FSt) (l : List Ent) : (stN g l).length = 2 * l.length := by
  induction l with
  | nil => rfl
  | cons x r ih =>
    unfold stN at ih ⊢
    simp only [List.flatMap_cons, List.length_append, ih, List.length_cons, List.length_nil]
    omega
theorem stN_state {s t : FsP} (h : stateL t = stateL s) : stN t.file t.dir.now = stN s.file s.dir.now := by
  have key : ∀ s : FsP, stN s.file s.dir.now = (stateL s).flatMap fun x => [x.1, strB x.2] := fun s => by
    unfold stN stateL
    rw [List.flatMap_map]
  rw [key, key, h]
theorem nodeF_at {s : FsP} {q T : Nat} (hf : FInv s q T) {x : Ent} (hx : x ∈ s.dir.now) : nodeF s x.1 = (0, x.2) := by
  unfold nodeF
  rw [if_neg (by simp [(hf.ino.now.1 x hx).1]), (findL_iff hf.dir.now.1).2 hx]
section
variable {w w' : World} {A q T : Nat} {M R : Nat → Prop} {s : FsP}
set_option maxRecDepth 100000 in
set_option maxHeartbeats 8000000 in
theorem kstate (h : FsM w A s.used M R s) (hf : FInv s q T) (hT : T ≤ 100000) (ho : s.off = false) :
    Calls Tryz.prog 21 #[.pointer (some ⟨A, 0, none⟩)] w fun e w' => ∃ v, e = .returned v ∧ w'.ownsRow w.heap.size 9 1 v (stN s.file s.dir.now).length (svs (stN s.file s.dir.now)) ∧ Below w.heap.size w w' := by
  obtain ⟨i0, hi0, hz0, hz1, hz2⟩ := info_parts string_info7
  have H := Lib.hid h
  have HF := Lib.hid hf
  have HO := Lib.hid ho
  have HL := Lib.hid (klist h ho)
  have hlen0 : s.dir.now.length ≤ 100000 := hf.dir.now_length
  obtain ⟨es, hes⟩ : ∃ es, es = s.dir.now := ⟨_, rfl⟩
  have Hes := Lib.hid hes
  rw [← hes] at HL hlen0 ⊢
  clear h hf ho hes
  go_enter Tryz.func21, Tryz.ntmps21
  go_wp2_with fail
  refine HL.out.mono ?_
  rintro e w1 ⟨v, rfl, hev, hb1⟩
  have HB1 := Lib.hid hb1
  have hn0 : (namesL es).length = es.length := by simp [namesL]
  have hE := sos_of_own hev rfl
  obtain ⟨Av, cv, rfl, hcv, hcm, _⟩ := own_slice hev
  have HE := Lib.hid hE
  obtain ⟨m, hm⟩ : ∃ m, m = (namesL es).length := ⟨_, rfl⟩
  rw [← hm] at hcv HE ⊢
  have Hm : Hid (m = es.length) := hm.trans hn0
  have hmb : m ≤ 100000 := by have := Hm.out; omega
  clear hb1 hm hev hE hn0 HL hlen0
  go_wp2_with fail
  go_loopw [3, 13] (fun o i wr => ∃ j : Nat, j ≤ m ∧ i = .int .i64 j ∧ wr.ownsRow w1.heap.size 9 1 o (2 * j) (svs (stN s.file (es.take j))) ∧ Below w1.heap.size w1 wr) (fun _ i _ => m - (intOf i).toNat)
  case atStart => exact ⟨0, by omega, rfl, by simpa [stN, svs] using World.ownsRow_nil _ _ _ _, Below.refl _ _⟩
  case round =>
    obtain ⟨j, hj, rfl, hown, hb⟩ := hrel
    have HB := Lib.hid hb
    by_cases hjl : j < m
    · have d1 : decide ((j : Int) < (m : Int)) = true := decide_eq_true (by omega)
      obtain ⟨x, hx⟩ : ∃ x, es[j]? = some x := ⟨es[j]'(by have := Hm.out; omega), List.getElem?_eq_getElem _⟩
      have hxn : (namesL es)[j]? = some x.1 := by unfold namesL; rw [List.getElem?_map, hx]; rfl
      obtain ⟨b1, o1, rfl, hb1, e0⟩ := (HE.out.on HB.out).at_ rfl hxn
      have HX := Lib.hid hx
      have hxm : x ∈ s.dir.now := by rw [← Hes.out]; exact List.mem_of_getElem? hx
      obtain ⟨Ao, co, rfl, _, _, _⟩ := own_slice hown
      have HOw := Lib.hid hown
      have hnd := nodeF_at HF.out hxm
      have hsz : x.1.size ≤ maxLen := nm7 (HF.out.dir.now.2 x hxm).1
      obtain ⟨L, hL⟩ : ∃ L, L = (s.file x.2).bytes.length := ⟨_, rfl⟩
      have HWr := Lib.hid (H.out.on (HB1.out.trans (HB.out.mono HB1.out.size)))
      have hs := ksize (nm := x.1) HWr.out HF.out (by omega) HO.out hsz
      rw [hnd] at hs
      simp only [if_true] at hs
      rw [← hL] at hs
      have HSi := Lib.hid hs
      have HRd : Hid (∀ w2, Below wr.heap.size wr w2 → _) := fun w2 hb => kread (nm := x.1) (i := x.2) (L := L) (HWr.out.on hb) HF.out (by omega) HO.out hsz hnd hL
      have HJ := Lib.hid (stN_take s.file HX.out)
      have hLb : L ≤ 100000 := by rw [hL]; exact Nat.le_trans (FSt.bytes_length (HF.out.files _)) (Nat.le_trans (HF.out.big_le (HF.out.ino.now.1 x hxm).2.2) hT)
      have HL9 := Lib.hid hL
      obtain ⟨xn, xi⟩ := x
      simp only at e0 hnd hsz
      clear hx hown hb hxn hb1 hxm hnd hsz hs hL
      go_wp2_with fail
      refine HSi.out.mono ?_
      rintro e w2 ⟨rfl, hb2⟩
      have HB2 := Lib.hid hb2
      have HRd2 := Lib.hid (HRd.out w2 hb2)
      clear hb2 e0 HSi HRd
      go_wp2_with fail
      refine HRd2.out.mono ?_
      rintro e w3 ⟨r, rfl, ho3, hb3⟩
      have hbs := Bs.of_own ho3
      obtain ⟨Ar, cr, er, _, hrd⟩ := hbs
      have hrL : (s.file xi).bytes.length = L := HL9.out.symm
      rw [hrL] at er
      subst er
      have hcv9 : (convert 23 9 (.slice Ar L cr)).run Tryz.prog w3 = .ok (.string (strB (s.file xi).bytes)) w3 := by
        have h9 := convert_rd (P := Tryz.prog) hrd cr 23 5 9 Tryz.underlying23 Tryz.underlying5 Tryz.underlying9
        rw [hrL] at h9
        exact h9
      have HB3 := Lib.hid (HB2.out.trans (hb3.mono HB2.out.size))
      have HOw3 := Lib.hid ((Chg.of_below (M := fun _ => False) HB3.out).own HOw.out (fun g hg e => e))
      have hs13 : w1.heap.size ≤ w3.heap.size := Nat.le_trans HB.out.size HB3.out.size
      generalize strB (s.file xi).bytes = st at *
      clear ho3 hb3 hrd hrL HRd2
      have hnew : SsR (w3.alloc (.cells #[.string xn, .string st] 9)) (fun i => i = w3.heap.size) (.slice (some ⟨w3.heap.size, 0, none⟩) 2 2) [xn, st] := ssR_two w3 xn st _ rfl
      have HNw : Hid (Rd (w3.alloc (.cells #[.string xn, .string st] 9)) (w3.heap.size + 1) (some ⟨w3.heap.size, 0, none⟩) (svs [xn, st])) := fun hx => by
        obtain ⟨A9, c9, e9, _, _, h9⟩ := hnew
        injection e9 with e9
        subst e9
        obtain ⟨b9, o9, e8, e7, h8⟩ := h9 hx
        exact ⟨b9, o9, e8, by omega, h8⟩
      clear hnew
      go_wp2_with (at_builtin; (refine wpList_append_rd _ rfl _ _ 46 rfl w1.heap.size 9 i0 (.string .empty) 1 16 Tryz.underlying46 hi0 hz0 hz1 hz2 rfl (by omega) (.slice Ao (2 * j) co) (2 * j) (svs (stN s.file (es.take j))) rfl (HOw3.out.alloc _) (w3.heap.size + 1) (some ⟨w3.heap.size, 0, none⟩) 2 2 (svs [xn, st]) rfl (by simp [svs]) HNw.out (svs_one _) (by unfold maxLen; omega) (by omega) (by simp; omega) ?_); intro v4 w4 hown4 hb4 _ _; (have HO4 := Lib.hid hown4); (have HB4 := Lib.hid hb4); clear hown4 hb4)
      have hfin : w4.ownsRow w1.heap.size 9 1 v4 (2 * (j + 1)) (svs (stN s.file (es.take (j + 1)))) := by
        rw [HJ.out, svs_append]
        exact HO4.out
      have hbf : Below w1.heap.size w1 w4 := ((HB.out.trans (HB3.out.mono HB.out.size)).alloc (by omega) _).trans HB4.out
      have HF4 := Lib.hid hfin
      have HBF := Lib.hid hbf
      clear hfin hbf hcv9
      go_roundw
      case rel => exact ⟨j + 1, by omega, by go_num, HF4.out, HBF.out⟩
      case measure => simp [intOf]; omega
    · obtain rfl : j = m := by omega
      have d1 : decide ((j : Int) < (j : Int)) = false := decide_eq_false (by omega)
      have HOw := Lib.hid hown
      clear hown hb
      go_wp2_with fail
      go_ret
      have he : es.take j = es := List.take_of_length_le (by have := Hm.out; omega)
      have h1 := HOw.out
      rw [he] at h1
      have hl9 : (stN s.file es).length = 2 * j := by rw [stN_length, Hm.out]
      rw [hl9]
      exact ⟨_, rfl, own_base h1 HB1.out.size, HB1.out.trans (HB.out.mono HB1.out.size)⟩
end
end Go.Proofs.YtboeiadfmknidaaGreat
