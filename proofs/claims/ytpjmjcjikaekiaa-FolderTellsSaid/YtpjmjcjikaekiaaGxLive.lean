
/-
  Layer 6: the document's folder: Live.
-/
import Derived.Test.YtpjmjcjikaekiaaGxPush
set_option linter.unusedVariables false
set_option linter.unusedSimpArgs false
namespace Go.Proofs.Ytpjmjcjikaekiaa
open Go.RowKit

theorem u64r_info : (Try.prog.info? 29).map (fun i => (i.zero, i.size, i.bytes)) = some (some (.int .u64 0), 1, 8) := by kernel_rfl
def inSt (m : Nat) (l : List Ent) : Bool := l.any fun x => x.2 == m
def inSts (m : Nat) (sts : List (List Ent)) : Bool := sts.any (inSt m)
/-- the inodes below m that a state holds, rising -/
def liveTo (sts : List (List Ent)) (m : Nat) : List Nat := (List.range m).filter fun n => decide (1 ≤ n) && inSts n sts
def u64s (l : List Nat) : List Value := l.map fun (n : Nat) => Value.int .u64 (n : Int)
theorem u64s_append (l m : List Nat) : u64s (l ++ m) = u64s l ++ u64s m := by simp [u64s]
theorem liveTo_next (sts : List (List Ent)) (m : Nat) (hm : 1 ≤ m) : liveTo sts (m + 1) = if inSts m sts = true then liveTo sts m ++ [m] else liveTo sts m := by
  unfold liveTo
  rw [List.range_succ, List.filter_append]
  cases h : inSts m sts <;> simp [h, hm]
theorem liveTo_length (sts : List (List Ent)) (m : Nat) : (liveTo sts m).length ≤ m := by
  unfold liveTo
  have := List.length_filter_le (fun n => decide (1 ≤ n) && inSts n sts) (List.range m)
  rw [List.length_range] at this
  exact this
theorem any_next {α : Type} {f : α → Bool} {l : List α} {j : Nat} {x : α} (hx : l[j]? = some x) : (l.take (j + 1)).any f = ((l.take j).any f || f x) := by
  rw [take_next6 hx, List.any_append]
  simp
section
variable {w : World} {X : Nat} {N : Nat → Prop} {vs : Value} {vals : List Value} {sts : List (List Ent)} {last : Nat}
set_option maxRecDepth 100000 in
set_option maxHeartbeats 8000000 in
theorem rlive (h : RFol w X N vs vals sts last) (hl : sts.length ≤ 100000) (hla : last ≤ 1000000) (hen : ∀ l ∈ sts, l.length ≤ 100000) (hin : ∀ l ∈ sts, ∀ x ∈ l, x.2 < 18446744073709551616) :
    Calls Try.prog 20 #[.pointer (some ⟨X, 0, none⟩)] w fun e w' => ∃ r, e = .returned r ∧ w'.ownsRow w.heap.size 29 1 r (liveTo sts (last + 1)).length (u64s (liveTo sts (last + 1))) ∧ Below w.heap.size w w' := by
  obtain ⟨i0, hi0, hz0, hz1, hz2⟩ := info_parts u64r_info
  have H := Lib.hid h
  have Hen := Lib.hid hen
  have Hin := Lib.hid hin
  obtain ⟨g, cap, hvs, _, hg⟩ := h.own.form h.pos
  obtain ⟨n, hn⟩ : ∃ n, n = sts.length := ⟨_, rfl⟩
  have hn5 : n ≤ 100000 := by omega
  have Hvs : Hid (vs = .slice (some ⟨g, 0, none⟩) n cap) := by rw [hn]; exact hvs
  have Hn := Lib.hid hn
  -- what is read
  have HR : Hid (∀ wx, Below w.heap.size w wx → wx.cell? ⟨X, 0, none⟩ = some (.slice (some ⟨g, 0, none⟩) n cap) ∧ wx.cell? ⟨X, 1, none⟩ = some (.int .u64 (last : Int)) ∧
      ∀ (i : Nat) l, sts[i]? = some l → ∃ A c, wx.cell? ⟨g, i, none⟩ = some (.slice A l.length c) ∧ ∀ (k : Nat) x, l[k]? = some x → ∃ b o, A = some ⟨b, o, none⟩ ∧ wx.cell? ⟨b, o + k * 2 + 1, none⟩ = some (.int .u64 (x.2 : Int))) := fun wx hb => by
    have hx := H.out.on hb
    have hO := hx.own
    rw [Hvs.out] at hO
    refine ⟨by have := hx.c0; rw [Hvs.out] at this; exact this, hx.c1, fun i l hi => ?_⟩
    obtain ⟨v, hv⟩ : ∃ v, vals[i]? = some v := ⟨vals[i]'(by have := (List.getElem?_eq_some_iff.1 hi).1; have := hx.each.1; omega), List.getElem?_eq_getElem _⟩
    obtain ⟨A, c, rfl, _, hr⟩ := hx.each.2 i v l hv hi
    refine ⟨A, c, ?_, fun k x hk => ?_⟩
    · rw [hn] at hO
      rw [hO.cellAt i (by have := (List.getElem?_eq_some_iff.1 hi).1; omega)]
      exact hv
    · obtain ⟨b, o, e, _, hcell⟩ := hr (by intro e; have h9 := evs_get l k x hk; rw [e] at h9; simp at h9)
      exact ⟨b, o, e, by have := hcell _ _ (evs_get l k x hk).2; rwa [← Nat.add_assoc] at this⟩
  clear h hvs hg hn hl hen hin
  obtain ⟨la, hlae⟩ : ∃ la, la = last + 1 := ⟨_, rfl⟩
  have Hla := Lib.hid hlae
  clear hlae
  go_enter Try.func20, Try.ntmps20
  go_wp2_with fail
  go_loopw [3, 4] (fun o nx wr => ∃ m : Nat, 1 ≤ m ∧ m ≤ last + 1 ∧ nx = .int .u64 m ∧ wr.ownsRow w.heap.size 29 1 o (liveTo sts m).length (u64s (liveTo sts m)) ∧ Below w.heap.size w wr) (fun _ nx _ => last + 2 - (intOf nx).toNat)
  case atStart => exact ⟨1, by omega, by omega, rfl, by simpa [liveTo, u64s] using World.ownsRow_nil _ _ _ _, Below.refl _ _⟩
  case round =>
    obtain ⟨m, hm1, hm2, rfl, hown, hb⟩ := hrel
    have HO := Lib.hid hown
    have HB := Lib.hid hb
    clear hown hb
    obtain ⟨c0, c1, hrows⟩ := HR.out _ HB.out
    have Hrows := Lib.hid hrows
    clear hrows
    by_cases hml : m ≤ last
    · go_wp2_with fail
      have C0 := Lib.hid c0
      have C1 := Lib.hid c1
      clear c0 c1
      generalize wr = wo at *
      go_loopw [5, 6] (fun d ix wx => ∃ i : Nat, i ≤ n ∧ ix = .int .i64 i ∧ d = .bool ((sts.take i).any (inSt m)) ∧ wo = wx) (fun _ ix _ => n - (intOf ix).toNat)
      case atStart => exact ⟨0, by omega, rfl, rfl, rfl⟩
      case round =>
        obtain ⟨i, hi, rfl, rfl, rfl⟩ := hrel
        have c0 := C0.out
        by_cases hin : i < n
        · obtain ⟨l, hl⟩ : ∃ l, sts[i]? = some l := ⟨sts[i]'(by have := Hn.out; omega), List.getElem?_eq_getElem _⟩
          obtain ⟨A, c, ci, hent⟩ := Hrows.out i l hl
          have Hent := Lib.hid hent
          obtain ⟨k, hk⟩ : ∃ k, k = l.length := ⟨_, rfl⟩
          rw [← hk] at ci
          have hk5 : k ≤ 100000 := by rw [hk]; exact Hen.out l (List.mem_of_getElem? hl)
          have Hk := Lib.hid hk
          have HNx := Lib.hid (any_next (f := inSt m) hl)
          have HIn := Lib.hid (Hin.out l (List.mem_of_getElem? hl))
          clear hent hk hl
          generalize hP : (sts.take i).any (inSt m) = P at *
          have HP := Lib.hid hP
          clear hP
          go_wp2_with fail
          go_loopw [5, 7] (fun d kx wx => ∃ j : Nat, j ≤ k ∧ kx = .int .i64 j ∧ d = .bool (P || (l.take j).any (fun x => x.2 == m)) ∧ wo = wx) (fun _ kx _ => k - (intOf kx).toNat)
          case atStart => exact ⟨0, by omega, rfl, by simp, rfl⟩
          case round =>
            obtain ⟨j, hj, rfl, rfl, rfl⟩ := hrel
            by_cases hjk : j < k
            · obtain ⟨x, hx⟩ : ∃ x, l[j]? = some x := ⟨l[j]'(by have := Hk.out; omega), List.getElem?_eq_getElem _⟩
              obtain ⟨b, o, rfl, cx⟩ := Hent.out j x hx
              have HNj := Lib.hid (any_next (f := fun x : Ent => x.2 == m) hx)
              clear hx
              obtain ⟨y, hy⟩ : ∃ y, y = x.2 := ⟨_, rfl⟩
              rw [← hy] at cx HNj
              clear hy
              generalize (l.take j).any (fun x => x.2 == m) = Q at *
              by_cases hym : y = m
              · have e1 : ((y : Int) == (m : Int)) = true := by simp [hym]
                have HE : Hid ((l.take (j + 1)).any (fun x => x.2 == m) = true) := Lib.hid (by rw [HNj.out, hym]; simp)
                clear hym HNj
                go_wp2_with fail
                go_roundw
                case rel => exact ⟨j + 1, by omega, by go_num, by rw [HE.out, Bool.or_true], by first | trivial | rfl⟩
                case measure => simp [intOf]; omega
              · have e1 : ((y : Int) == (m : Int)) = false := by simp; omega
                have HE : Hid ((l.take (j + 1)).any (fun x => x.2 == m) = Q) := Lib.hid (by rw [HNj.out]; simp [hym])
                have Hym := Lib.hid hym
                clear hym HNj
                go_wp2_with fail
                go_roundw
                case rel => exact ⟨j + 1, by omega, by go_num, by rw [HE.out], by first | trivial | rfl⟩
                case measure => simp [intOf]; omega
            · obtain rfl : j = k := by omega
              have he : l.take j = l := List.take_of_length_le (by have := Hk.out; omega)
              have HE : Hid ((sts.take (i + 1)).any (inSt m) = (P || (l.take j).any (fun x => x.2 == m))) := Lib.hid (by rw [HNx.out, he]; rfl)
              clear he
              generalize (P || (l.take j).any (fun x => x.2 == m)) = Q at *
              go_wp2_with fail
              go_roundw
              case rel => exact ⟨i + 1, by omega, by go_num, by rw [HE.out], by first | trivial | rfl⟩
              case measure => simp [intOf]; omega
        · obtain rfl : i = n := by omega
          have he : sts.take i = sts := List.take_of_length_le (by have := Hn.out; omega)
          have hP : (sts.take i).any (inSt m) = inSts m sts := by rw [he]; rfl
          rw [hP]
          have HN2 := Lib.hid (liveTo_next sts m hm1)
          clear he hP
          cases hin2 : inSts m sts
          · rw [hin2] at HN2
            have HE : Hid (liveTo sts (m + 1) = liveTo sts m) := Lib.hid (by rw [HN2.out]; rfl)
            clear hin2 HN2
            go_wp2_with fail
            go_roundw
            case rel => exact ⟨m + 1, by omega, by omega, by go_num, by rw [HE.out]; exact HO.out, HB.out⟩
            case measure => simp [intOf]; omega
          · rw [hin2] at HN2
            have HE : Hid (liveTo sts (m + 1) = liveTo sts m ++ [m]) := Lib.hid (by rw [HN2.out]; rfl)
            clear hin2 HN2
            obtain ⟨Ao, co, heo, _, _, _⟩ := own_slice HO.out
            obtain ⟨no, hno⟩ : ∃ no, no = (liveTo sts m).length := ⟨_, rfl⟩
            have hno2 : no ≤ 1000001 := by rw [hno]; exact Nat.le_trans (liveTo_length sts m) (by omega)
            rw [← hno] at heo
            have HO2 : Hid (wo.ownsRow w.heap.size 29 1 (.slice Ao no co) no (u64s (liveTo sts m))) := by have := HO.out; rw [← hno, heo] at this; exact this
            have Hno := Lib.hid hno
            have hwb : w.heap.size ≤ wo.heap.size := HB.out.size
            clear hno HO
            subst heo
            go_wp2_with (at_builtin; (refine wpList_append_1 _ rfl _ _ 42 rfl w.heap.size 29 i0 (.int .u64 0) 8 Try.underlying42 hi0 hz0 hz1 hz2 rfl (.slice Ao no co) no (u64s (liveTo sts m)) rfl (HO2.out.alloc _) ⟨wo.heap.size, 0, none⟩ 1 (.int .u64 (m : Int)) rfl (cell_new1 _ _ _) rfl (by unfold maxLen; omega) (by omega) (by simp; omega) ?_); intro v3 w3 hown3 hb3 hg3 hv3)
            have hf : w3.ownsRow w.heap.size 29 1 v3 (liveTo sts (m + 1)).length (u64s (liveTo sts (m + 1))) := by
              rw [HE.out, List.length_append, ← Hno.out, u64s_append]
              exact hown3
            have hbw : Below w.heap.size w w3 := (HB.out.alloc HB.out.size _).trans hb3
            clear hown3 hb3 hg3 hv3
            go_roundw
            case rel => exact ⟨m + 1, by omega, by omega, by go_num, hf, hbw⟩
            case measure => simp [intOf]; omega
    · obtain rfl : m = last + 1 := by omega
      have hle : decide (((last + 1 : Nat) : Int) ≤ (last : Int)) = false := decide_eq_false (by omega)
      go_wp2_with fail
      go_ret
      exact ⟨_, rfl, HO.out, HB.out⟩
end
end Go.Proofs.Ytpjmjcjikaekiaa
