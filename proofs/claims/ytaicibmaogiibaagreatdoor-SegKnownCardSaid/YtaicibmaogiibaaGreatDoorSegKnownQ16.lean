/-
  SegKnown, part 16 of what the law's proof leans on: JfLook, JfShut.
-/
import Derived.Test.YtaicibmaogiibaaGreatDoorSegKnownQ15
/- JfLook -/

/-
  Layer 7: what only looks: made, ready, the bytes of names, the file of a name.
-/
set_option linter.unusedVariables false
set_option linter.unusedSimpArgs false
namespace Go.Proofs.YtaicibmaogiibaaGreatDoor
open Go.RowKit Go.Maps

/-- how many bytes the file of a name has -/
def lenAt (g : Nat → FSt) (now : List Ent) (n : ByteArray) : Nat := match findL now n with
  | some i => (g i).bytes.length
  | none => 0
def bytesN (g : Nat → FSt) (now : List Ent) (ns : List ByteArray) : Nat := (ns.map (lenAt g now)).sum
theorem bytesN_take (g : Nat → FSt) (now : List Ent) {ns : List ByteArray} {k : Nat} {x : ByteArray} (hx : ns[k]? = some x) : bytesN g now (ns.take (k + 1)) = bytesN g now (ns.take k) + lenAt g now x := by
  unfold bytesN
  rw [List.take_add_one, hx]
  simp
theorem bytesN_le (g : Nat → FSt) (now : List Ent) (ns : List ByteArray) (k : Nat) : bytesN g now (ns.take k) ≤ bytesN g now ns := by
  unfold bytesN
  conv => rhs; rw [← List.take_append_drop k ns, List.map_append, List.sum_append]
  exact Nat.le_add_right _ _
theorem bytesN_one (g : Nat → FSt) (now : List Ent) (x : ByteArray) : bytesN g now [x] = lenAt g now x := by simp [bytesN]
theorem bytesN_nil (g : Nat → FSt) (now : List Ent) : bytesN g now [] = 0 := rfl
section
variable {w w' : World} {A X B n u q st : Nat} {on : Bool} {hv : Value} {K : List Nat} {g : Nat → Nat} {MX M R N : Nat → Prop} {MF : Nat → Nat → Prop} {s : FsP}
set_option maxRecDepth 100000 in
theorem kmade (h : FsC w A X B q u st on hv) : Calls Tryz.prog 47 #[.pointer (some ⟨A, 0, none⟩)] w fun e w' => e = .returned (.bool true) ∧ w = w' := by
  have hc := h.c0
  clear h
  go_enter Tryz.func47, Tryz.ntmps47
  go_wp2
  go_ret
  exact ⟨rfl, rfl⟩
set_option maxRecDepth 100000 in
theorem kready (h : FsC w A X B q u st on hv) : Calls Tryz.prog 114 #[.pointer (some ⟨A, 0, none⟩)] w fun e w' => e = .returned (.int .i64 ((if on then 0 else 20 : Nat) : Int)) ∧ w = w' := by
  have H := Lib.hid h
  have hc := h.c5
  clear h
  cases on
  · go_enter Tryz.func114, Tryz.ntmps114
    go_wp2_with (go_at_call 47; refine (kmade H.out).mono ?_; rintro e w' ⟨rfl, rfl⟩)
    go_ret
    exact ⟨rfl, rfl⟩
  · go_enter Tryz.func114, Tryz.ntmps114
    go_wp2_with (go_at_call 47; refine (kmade H.out).mono ?_; rintro e w' ⟨rfl, rfl⟩)
    go_ret
    exact ⟨rfl, rfl⟩
set_option maxRecDepth 100000 in
set_option maxHeartbeats 4000000 in
theorem kbytesOf {v : Value} {ns : List ByteArray} (h : FsAt w A X B n u hv K g MX MF M R s) (hk : ∀ x, x ∈ s.dir.now → x.2 ∈ K) (hb : ∀ i, i ∈ K → (s.file i).big ≤ 1000000) (hT : bytesN s.file s.dir.now ns ≤ 1000000000)
    (hvs : SsR w N v ns) (hns : ∀ x, x ∈ ns → x.size ≤ maxLen) (hlen : ns.length ≤ 1000000) :
    Calls Tryz.prog 57 #[.pointer (some ⟨A, 0, none⟩), v] w fun e w' => e = .returned (.int .i64 ((bytesN s.file s.dir.now ns : Nat) : Int)) ∧ Below w.heap.size w w' := by
  have H := Lib.hid h
  have HV := Lib.hid hvs
  have HK := Lib.hid hk
  have HB := Lib.hid hb
  have HT := Lib.hid hT
  have HN := Lib.hid hns
  obtain ⟨V, c, rfl, hc1, hc2, _⟩ := hvs
  obtain ⟨m, hm⟩ : ∃ m, m = ns.length := ⟨_, rfl⟩
  rw [← hm] at hc1 hlen HV ⊢
  have Hm := Lib.hid hm
  clear hm h hk hb hT hns
  go_enter Tryz.func57, Tryz.ntmps57
  go_wp2_with fail
  go_loopw [5, 12] (fun a i wr => ∃ k : Nat, k ≤ m ∧ i = .int .i64 k ∧ a = .int .i64 ((bytesN s.file s.dir.now (ns.take k) : Nat) : Int) ∧ Below w.heap.size w wr) (fun _ i _ => m - (intOf i).toNat)
  case atStart => exact ⟨0, by omega, rfl, by simp [bytesN], Below.refl _ _⟩
  case round =>
    obtain ⟨k, hk, rfl, rfl, hbw⟩ := hrel
    have HBW := Lib.hid hbw
    clear hbw
    by_cases hkm : k < m
    · have hdk : decide ((k : Int) < (m : Int)) = true := decide_eq_true (by omega)
      obtain ⟨x, hx⟩ : ∃ x, ns[k]? = some x := ⟨ns[k]'(by have := Hm.out; omega), List.getElem?_eq_getElem _⟩
      have HX := Lib.hid hx
      have HS := Lib.hid (bytesN_take s.file s.dir.now hx)
      have hS1 := Nat.le_trans (bytesN_le s.file s.dir.now ns (k + 1)) HT.out
      rw [HS.out] at hS1
      obtain ⟨b1, o1, rfl, _, e0⟩ := (HV.out.on HBW.out).at_ rfl hx
      have H1 := Lib.hid (H.out.on HBW.out)
      have hc0 := H1.out.cells.c0
      have hc1' := H1.out.cells.c1
      have hfind := hfind_m H1.out.dir (HN.out x (List.mem_of_getElem? hx))
      have hdk3 : (k : Int) < (m : Int) := by omega
      clear hx
      rcases hf : findL s.dir.now x with _ | i
      · rw [hf] at hfind
        simp only [Option.getD_none, Option.isSome_none] at hfind
        have hl0 : lenAt s.file s.dir.now x = 0 := by unfold lenAt; rw [hf]
        rw [hl0, Nat.add_zero] at HS
        have HF := Lib.hid hfind
        clear hfind hl0 hS1
        generalize bytesN s.file s.dir.now (ns.take k) = S at *
        go_wp2_with (go_at_call 102; refine HF.out.mono ?_; rintro e w' ⟨rfl, rfl⟩)
        go_roundw
        case rel => exact ⟨k + 1, by omega, by go_num, by rw [HS.out]; simp, HBW.out⟩
        case measure => simp [intOf]; omega
      · rw [hf] at hfind
        simp only [Option.getD_some, Option.isSome_some] at hfind
        have hl0 : lenAt s.file s.dir.now x = (s.file i).bytes.length := by unfold lenAt; rw [hf]
        rw [hl0] at HS hS1
        have hiK : i ∈ K := HK.out _ (findL_mem hf)
        have hlook := H1.out.map.look (H1.out.ks i hiK) hiK
        have hsz := fsize_m (H1.out.files i hiK) (Nat.le_trans (HB.out i hiK) (by omega)) _ rfl
        have HF := Lib.hid hfind
        have HZ := Lib.hid hsz
        clear hfind hl0 hsz
        generalize bytesN s.file s.dir.now (ns.take k) = S at *
        generalize (s.file i).bytes.length = L at *
        generalize g i = Fi at *
        go_wp2_with (first
          | (go_at_call 102; refine HF.out.mono ?_; rintro e w' ⟨rfl, rfl⟩)
          | (go_at_call 85; refine HZ.out.mono ?_; rintro e w2 ⟨rfl, hb2⟩; have HB2 := Lib.hid (HBW.out.trans (hb2.mono HBW.out.size)); clear hb2))
        go_roundw
        case rel => exact ⟨k + 1, by omega, by go_num, by rw [HS.out]; go_num, HB2.out⟩
        case measure => simp [intOf]; omega
    · have hdk : decide ((k : Int) < (m : Int)) = false := decide_eq_false (by omega)
      have hfin := Lib.hid (show bytesN s.file s.dir.now ns = bytesN s.file s.dir.now (ns.take k) by rw [List.take_of_length_le (by have := Hm.out; omega)])
      go_wp2_with fail
      go_ret
      exact ⟨by rw [hfin.out]; rfl, HBW.out⟩
set_option maxRecDepth 100000 in
set_option maxHeartbeats 4000000 in
theorem kfind {nm : ByteArray} (h : FsAt w A X B n u hv K g MX MF M R s) (hk : ∀ x, x ∈ s.dir.now → x.2 ∈ K) (ho : s.off = false) (hn : nm.size ≤ maxLen) :
    Calls Tryz.prog 65 #[.pointer (some ⟨A, 0, none⟩), .string nm] w fun e w' => e = .returned (.tuple #[.pointer (if (nodeF s nm).1 = 0 then some ⟨g (nodeF s nm).2, 0, none⟩ else none), .int .i64 ((nodeF s nm).1 : Int)]) ∧ Below w.heap.size w w' := by
  have H := Lib.hid h
  have hon := kready h.cells
  rw [ho] at hon
  simp only [Bool.not_false, if_true] at hon
  have HON := Lib.hid hon
  have HM := Lib.hid (hmay nm w (by unfold maxLen at hn; omega))
  clear hon
  cases hmy : mayN nm
  · have hnd : nodeF s nm = (1, 0) := by unfold nodeF; rw [if_pos hmy]
    rw [hnd]
    rw [hmy] at HM
    clear h hk hnd
    go_enter Tryz.func65, Tryz.ntmps65
    go_wp2_with (first
      | (go_at_call 114; refine HON.out.mono ?_; rintro e w' ⟨rfl, rfl⟩)
      | (go_at_call 115; refine HM.out.mono ?_; rintro e w1 ⟨rfl, hb1⟩; have HB1 := Lib.hid hb1; clear hb1))
    go_ret2
    exact ⟨rfl, HB1.out⟩
  · rw [hmy] at HM
    rcases hf : findL s.dir.now nm with _ | i
    · have hnd : nodeF s nm = (6, 0) := by unfold nodeF; rw [if_neg (by simp [hmy]), hf]
      rw [hnd]
      have HF : Hid (∀ w1, Below w.heap.size w w1 → Calls Tryz.prog 102 #[.pointer (some ⟨X, 0, none⟩), .string nm] w1 fun e w' => e = .returned (.tuple #[.int .u64 ((0 : Nat) : Int), .bool false]) ∧ w1 = w') := fun w1 hb => by
        have h1 := hfind_m (H.out.on hb).dir hn
        rw [hf] at h1
        simpa only [Option.getD_none, Option.isSome_none] using h1
      clear h hk hnd
      go_enter Tryz.func65, Tryz.ntmps65
      go_wp2_with (first
        | (go_at_call 114; refine HON.out.mono ?_; rintro e w' ⟨rfl, rfl⟩)
        | (go_at_call 115; refine HM.out.mono ?_; rintro e w1 ⟨rfl, hb1⟩; have HB1 := Lib.hid hb1; have hc0 := (H.out.on hb1).cells.c0; clear hb1)
        | (go_at_call 102; refine (HF.out _ HB1.out).mono ?_; rintro e w' ⟨rfl, rfl⟩))
      go_ret2
      exact ⟨rfl, HB1.out⟩
    · have hnd : nodeF s nm = (0, i) := by unfold nodeF; rw [if_neg (by simp [hmy]), hf]
      rw [hnd]
      have hiK : i ∈ K := hk _ (findL_mem hf)
      have HF : Hid (∀ w1, Below w.heap.size w w1 → Calls Tryz.prog 102 #[.pointer (some ⟨X, 0, none⟩), .string nm] w1 fun e w' => e = .returned (.tuple #[.int .u64 (i : Int), .bool true]) ∧ w1 = w') := fun w1 hb => by
        have h1 := hfind_m (H.out.on hb).dir hn
        rw [hf] at h1
        simpa only [Option.getD_some, Option.isSome_some] using h1
      have HL : Hid (∀ w1, Below w.heap.size w w1 → (Instr.lookup 81 (.map (some B)) (.int .u64 (i : Int)) false).run Tryz.prog w1 = .ok (.pointer (some ⟨g i, 0, none⟩)) w1) := fun w1 hb => (H.out.on hb).map.look (h.ks i hiK) hiK
      clear h hk hnd
      simp only [if_true]
      generalize g i = Fi at *
      go_enter Tryz.func65, Tryz.ntmps65
      go_wp2_with (first
        | (go_at_call 114; refine HON.out.mono ?_; rintro e w' ⟨rfl, rfl⟩)
        | (go_at_call 115; refine HM.out.mono ?_; rintro e w1 ⟨rfl, hb1⟩; have HB1 := Lib.hid hb1; have hc0 := (H.out.on hb1).cells.c0; have hc1 := (H.out.on hb1).cells.c1; have hlk := HL.out _ hb1; clear hb1)
        | (go_at_call 102; refine (HF.out _ HB1.out).mono ?_; rintro e w' ⟨rfl, rfl⟩))
      go_ret2
      exact ⟨rfl, HB1.out⟩
end
end Go.Proofs.YtaicibmaogiibaaGreatDoor

/-
  Layer 7: a step: what is asked ahead of it, and what is kept of the bytes.
-/
set_option linter.unusedVariables false
set_option linter.unusedSimpArgs false
namespace Go.Proofs.YtaicibmaogiibaaGreatDoor
open Go.RowKit Go.Maps

theorem FInv.big_le {s : FsP} {q T : Nat} (h : FInv s q T) {i : Nat} (hi : i ≤ s.dir.last) : (s.file i).big ≤ T := by
  have h1 := sum_nodup_le (f := fun i => (s.file i).big) (l := [i]) (n := s.dir.last) (by simp) (fun j hj => by simp at hj; omega)
  simp at h1
  exact Nat.le_trans h1 h.tot
theorem FInv.len_le {s : FsP} {q T : Nat} (h : FInv s q T) (x : ByteArray) : lenAt s.file s.dir.now x ≤ T := by
  unfold lenAt
  split
  · rename_i i hi
    exact Nat.le_trans (FSt.bytes_length (h.files i)) (h.big_le (h.ino.now.1 _ (findL_mem hi)).2.2)
  · exact Nat.zero_le _
theorem FInv.bytesN_le {s : FsP} {q T : Nat} (h : FInv s q T) : ∀ ns : List ByteArray, bytesN s.file s.dir.now ns ≤ ns.length * T
  | [] => by simp [bytesN]
  | x :: r => by
    have h1 := h.bytesN_le r
    have h2 := h.len_le x
    unfold bytesN at h1 ⊢
    simp only [List.map_cons, List.sum_cons, List.length_cons, Nat.succ_mul]
    omega
theorem FsM.kfacts {w : World} {A u q T : Nat} {M R : Nat → Prop} {s : FsP} (h : FsM w A u M R s) (hf : FInv s q T) :
    ∃ X B n hv K g MX MF, FsAt w A X B n u hv K g MX MF M R s ∧ n ≤ s.dir.last + 1 ∧ (∀ i, i ∈ K → i ≤ s.dir.last) ∧ (∀ i, i ∈ s.dir.live → i ∈ K) ∧ (∀ x, x ∈ s.dir.now → x.2 ∈ K) ∧ (∀ i, i ∈ K → (s.file i).big ≤ T) := by
  obtain ⟨X, B, n, hv, K, g, MX, MF, h, h1, h2, h3⟩ := h
  exact ⟨X, B, n, hv, K, g, MX, MF, h, h1, h2, h3, fun x hx => h3 _ (hf.ino.live_now hf.dir.settled x hx), fun i hi => hf.big_le (h2 i hi)⟩
set_option maxRecDepth 100000 in
theorem kalways (w : World) (x : Int) : Calls Tryz.prog 34 #[.int .i64 x] w fun e w' => e = .returned (.bool true) ∧ w = w' := by
  go_enter Tryz.func34, Tryz.ntmps34
  go_wp2
  go_ret
  exact ⟨rfl, rfl⟩
theorem khold {w : World} {R : Nat → Prop} {hv : Value} {st : Nat} {o : Option Nat} (h : HoldAt w R hv st o) (hst : st + 1 ≤ 1000000) :
    ∃ f cap, hv = .func (.func f) #[] cap ∧ (∀ args w', (callFunc f args).run Tryz.prog w' = .ok (.enter f args) w') ∧
      ∀ w', HoldAt w' R hv st o → Calls Tryz.prog f (#[.int .i64 ((st + 1 : Nat) : Int)] ++ cap) w' fun e w'' => e = .returned (.bool (decide (o ≠ some 0))) ∧ w' = w'' := by
  cases o with
  | none =>
    refine ⟨_, _, h, fun args w' => enters_of Tryz.func34 (by kernel_rfl) rfl args w', fun w' h' => ?_⟩
    refine (kalways w' _).mono ?_
    rintro e w'' ⟨rfl, rfl⟩
    exact ⟨by simp, rfl⟩
  | some n => exact h.elim
section
variable {w w' : World} {A X B n u q T : Nat} {hv : Value} {K : List Nat} {g : Nat → Nat} {MX M R N : Nat → Prop} {MF : Nat → Nat → Prop} {s : FsP}
theorem FsAt.beginOn (h : FsAt w A X B n u hv K g MX MF M R s) (ho : s.off = false) (hz : s.fuse ≠ some 0) (hg : Chg (fun i => i = A) w w') (hc : FsC w' A X B s.quota u (s.steps + 1) true hv) : FsAt w' A X B n u hv K g MX MF M R (beginF s).2 ∧ (beginF s).1 = 0 := by
  have e : beginF s = (0, { s with steps := s.steps + 1, fuse := s.fuse.map (· - 1) }) := by unfold beginF; rw [if_neg (by simp [ho]), if_neg hz]
  rw [e]
  refine ⟨h.own_set hg (by simpa [ho] using hc) rfl rfl (fun _ => ?_) h.hvf, rfl⟩
  have h1 := h.hold ho
  show HoldAt w R hv (s.steps + 1) (s.fuse.map (· - 1))
  cases hf : s.fuse with
  | none => rw [hf] at h1; exact h1
  | some k =>
    rw [hf] at h1 hz
    exact h1.elim
theorem FsAt.beginOff (h : FsAt w A X B n u hv K g MX MF M R s) (ho : s.off = false) (hz : s.fuse = some 0) (hg : Chg (fun i => i = A) w w') (hc : FsC w' A X B s.quota u (s.steps + 1) false hv) : FsAt w' A X B n u hv K g MX MF M R (beginF s).2 ∧ (beginF s).1 = 20 := by
  have e : beginF s = (20, { s with off := true, steps := s.steps + 1 }) := by unfold beginF; rw [if_neg (by simp [ho]), if_pos hz]
  rw [e]
  exact ⟨h.own_set hg hc rfl rfl (fun e => by simp at e) h.hvf, rfl⟩
theorem beginF_off (ho : s.off = true) : beginF s = (20, s) := by unfold beginF; rw [if_pos ho]
set_option maxRecDepth 100000 in
set_option maxHeartbeats 4000000 in
theorem kstep_off {a b : Value} (h : FsM w A u M R s) (ho : s.off = true) :
    Calls Tryz.prog 104 #[.pointer (some ⟨A, 0, none⟩), a, b] w fun e w' => e = .returned (.int .i64 20) ∧ w = w' := by
  obtain ⟨X, B, n, hv, K, g, MX, MF, h, _⟩ := h
  have hon := kready h.cells
  rw [ho] at hon
  simp only [Bool.not_true] at hon
  have HON := Lib.hid hon
  clear hon h
  go_enter Tryz.func104, Tryz.ntmps104
  go_wp2_with (go_at_call 114; refine HON.out.mono ?_; rintro e w' ⟨rfl, rfl⟩)
  go_ret
  exact ⟨rfl, rfl⟩
set_option maxRecDepth 100000 in
set_option maxHeartbeats 4000000 in
/-- a step -/
theorem kstep {v : Value} {ns : List ByteArray} {dg : Nat} {dcap : Array Value} {k : FsP → Nat × FsP} (h : FsM w A s.used M R s) (hf : FInv s q T) (hT : T ≤ 100000) (hst : s.steps + 1 ≤ 1000000)
    (hvs : SsR w N v ns) (hN : ∀ i, M i → ¬ N i) (hns : ∀ x, x ∈ ns → x.size ≤ maxLen) (hlen : ns.length ≤ 1000)
    (hen : ∀ args w', (callFunc dg args).run Tryz.prog w' = .ok (.enter dg args) w')
    (hdo : (beginF s).1 = 0 → ∀ w1, FsM w1 A s.used M R (beginF s).2 → Chg (fun i => i = A) w w1 →
      Calls Tryz.prog dg dcap w1 fun e w' => e = .returned (.int .i64 ((k (beginF s).2).1 : Int)) ∧ FsMut w1 w' A s.used M R (k (beginF s).2).2)
    (hinv : (beginF s).1 = 0 → ∃ q', FInv (k (beginF s).2).2 q' (T + 1200))
    (hus : (beginF s).1 = 0 → (k (beginF s).2).2.used + bytesN s.file s.dir.now ns = s.used + bytesN (k (beginF s).2).2.file (k (beginF s).2).2.dir.now ns) :
    Calls Tryz.prog 104 #[.pointer (some ⟨A, 0, none⟩), .func (.func dg) #[] dcap, v] w fun e w' => e = .returned (.int .i64 ((stepF s k).1 : Int)) ∧ FsMut w w' A (stepF s k).2.used M R (stepF s k).2 := by
  cases ho : s.off
  case true =>
    have e : stepF s k = (20, s) := by unfold stepF; rw [beginF_off ho]; simp
    rw [e]
    refine (kstep_off h ho).mono ?_
    rintro e w' ⟨rfl, rfl⟩
    exact ⟨rfl, FsMut.refl h⟩
  case false =>
    obtain ⟨ans, hans⟩ : ∃ ans, ans = stepF s k := ⟨_, rfl⟩
    rw [← hans]
    have Hans := Lib.hid hans
    clear hans
    obtain ⟨X, B, n, hv, K, g, MX, MF, ha, hn1, hn2, hn3, hnow, hbig⟩ := h.kfacts hf
    have hon := kready ha.cells
    rw [ho] at hon
    simp only [Bool.not_false, if_true] at hon
    have HON := Lib.hid hon
    obtain ⟨fg, fcap, hfv, hfe, hfc⟩ := khold (ha.hold ho) hst
    subst hfv
    have HA := Lib.hid ha
    obtain ⟨bz, hbz⟩ : ∃ bz, bz = decide (s.fuse ≠ some 0) := ⟨_, rfl⟩
    rw [← hbz] at hfc
    have Hbz := Lib.hid hbz
    obtain ⟨st1, hst1⟩ : ∃ st1, st1 = s.steps + 1 := ⟨_, rfl⟩
    rw [← hst1] at hfc
    have Hst1 := Lib.hid hst1
    have HH : Hid (∀ w', HoldAt w' R (.func (.func fg) #[] fcap) s.steps s.fuse → Calls Tryz.prog fg (#[.int .i64 (st1 : Int)] ++ fcap) w' fun e w'' => e = .returned (.bool bz) ∧ w' = w'') := hfc
    have c4 := ha.cells.c4
    have f4 := ha.cells.f4
    have Hn := Lib.hid (show n ≤ s.dir.last + 1 ∧ (∀ i, i ∈ K → i ≤ s.dir.last) ∧ (∀ i, i ∈ s.dir.live → i ∈ K) ∧ (∀ x, x ∈ s.dir.now → x.2 ∈ K) ∧ (∀ i, i ∈ K → (s.file i).big ≤ T) from ⟨hn1, hn2, hn3, hnow, hbig⟩)
    have HC2 : Hid (FsC (w.setCell ⟨A, 4, none⟩ (.int .i64 (st1 : Int))).drew A X B s.quota s.used st1 true (.func (.func fg) #[] fcap)) := by
      have h1 := (ha.cells.set4 st1).drew
      rw [ho] at h1
      exact h1
    have HG2 : Hid (Chg (fun i => i = A) w (w.setCell ⟨A, 4, none⟩ (.int .i64 (st1 : Int))).drew) := (chg_set w A 4 _).drew
    have HHo2 : Hid (HoldAt (w.setCell ⟨A, 4, none⟩ (.int .i64 (st1 : Int))).drew R (.func (.func fg) #[] fcap) s.steps s.fuse) := (ha.hold ho).chg HG2.out (fun i e => by rw [e]; exact ha.mr A ha.mA)
    have HO := Lib.hid ho
    have HF := Lib.hid hf
    have HV := Lib.hid hvs
    have HN := Lib.hid hN
    have HNS := Lib.hid hns
    have HD := Lib.hid hdo
    have HI := Lib.hid hinv
    have HU := Lib.hid hus
    have HMA : Hid (M A) := ha.mA
    have hwr : IntKind.i64.wrap ((s.steps : Int) + 1) = (st1 : Int) := by rw [IntWalk.i64_in _ (by rw [hst1] at *; omega)]; rw [hst1]; push_cast; rfl
    clear hon ha hn1 hn2 hn3 hnow hbig hfc hbz hst1 ho hf hvs hN hns hdo hinv hus h
    go_enter Tryz.func104, Tryz.ntmps104
    go_wp2_with (go_at_call 114; refine HON.out.mono ?_; rintro e w' ⟨rfl, rfl⟩)
    clear c4 f4
    generalize (w.setCell ⟨A, 4, none⟩ (.int .i64 (st1 : Int))) = W0 at *
    refine wp_region_noPanic ?_
    refine wp_region_held_drew (S := fun w' => w'.cell? ⟨A, 6, none⟩ = some (.func (.func fg) #[] fcap) ∧ w'.cell? ⟨A, 4, none⟩ = some (.int .i64 (st1 : Int))) (by kernel_rfl) ⟨HC2.out.c6, HC2.out.c4⟩ (fun hHeld => ?_)
    generalize World.drew _ = W at *
    refine wpAnyH_take (i := 0) (v := ?_) opAt_0 (by kernel_rfl) (by kernel_rfl) (by kernel_rfl) (fun _ _ _ h => h) (Or.inl ⟨by rfl, ?_⟩) hHeld ?_
    rotate_left
    · (intro w' hSw; obtain ⟨k6, k4⟩ := hSw; go_simp; try with_reducible rfl)
    try simp only [Act.put, List.setIfInBounds_toArray, List.set_cons_zero, List.set_cons_succ]
    refine wpAnyH_take (i := 1) (v := ?_) opAt_1 (by kernel_rfl) (by kernel_rfl) (by kernel_rfl) (fun _ _ _ h => h) (Or.inl ⟨by rfl, ?_⟩) hHeld ?_
    rotate_left
    · (intro w' hSw; obtain ⟨k6, k4⟩ := hSw; go_simp; try with_reducible rfl)
    try simp only [Act.put, List.setIfInBounds_toArray, List.set_cons_zero, List.set_cons_succ]
    refine wpAnyH_take (i := 2) (v := ?_) opAt_2 (by kernel_rfl) (by kernel_rfl) (by kernel_rfl) (fun _ _ _ h => h) (Or.inl ⟨by rfl, ?_⟩) hHeld ?_
    rotate_left
    · (intro w' hSw; obtain ⟨k6, k4⟩ := hSw; go_simp; try with_reducible rfl)
    try simp only [Act.put, List.setIfInBounds_toArray, List.set_cons_zero, List.set_cons_succ]
    refine wpAnyH_take (i := 3) (v := ?_) opAt_3 (by kernel_rfl) (by kernel_rfl) (by kernel_rfl) (fun _ _ _ h => h) (Or.inl ⟨by rfl, ?_⟩) hHeld ?_
    rotate_left
    · (intro w' hSw; obtain ⟨k6, k4⟩ := hSw; go_simp; try with_reducible rfl)
    try simp only [Act.put, List.setIfInBounds_toArray, List.set_cons_zero, List.set_cons_succ]
    refine wpAnyH_take (i := 4) (v := ?_) opAt_4 (by kernel_rfl) (by kernel_rfl) (by kernel_rfl) (fun _ _ _ h => h) (Or.inl ⟨by rfl, ?_⟩) hHeld ?_
    rotate_left
    · (intro w' hSw; obtain ⟨k6, k4⟩ := hSw; go_simp; try with_reducible rfl)
    try simp only [Act.put, List.setIfInBounds_toArray, List.set_cons_zero, List.set_cons_succ]
    refine wpAnyH_take (i := 5) (v := ?_) opAt_5 (by kernel_rfl) (by kernel_rfl) (by kernel_rfl) (fun _ _ _ h => h) (Or.inl ⟨by rfl, ?_⟩) hHeld ?_
    rotate_left
    · (intro w' hSw; obtain ⟨k6, k4⟩ := hSw; go_simp; try with_reducible rfl)
    try simp only [Act.put, List.setIfInBounds_toArray, List.set_cons_zero, List.set_cons_succ]
    refine wpAnyH_take (i := 6) (v := ?_) opAt_6 (by kernel_rfl) (by kernel_rfl) (by kernel_rfl) (fun _ _ _ h => h) (Or.inl ⟨by rfl, ?_⟩) hHeld ?_
    rotate_left
    · (intro w' hSw; obtain ⟨k6, k4⟩ := hSw; go_simp; try with_reducible rfl)
    try simp only [Act.put, List.setIfInBounds_toArray, List.set_cons_zero, List.set_cons_succ]
    refine wpAnyH_take (i := 7) (v := ?_) opAt_7 (by kernel_rfl) (by kernel_rfl) (by kernel_rfl) (fun _ _ _ h => h) (Or.inl ⟨by rfl, ?_⟩) hHeld ?_
    rotate_left
    · (intro w' hSw; obtain ⟨k6, k4⟩ := hSw; go_simp; try with_reducible rfl)
    try simp only [Act.put, List.setIfInBounds_toArray, List.set_cons_zero, List.set_cons_succ]
    refine wpAnyH_ready (rs := [8]) (by kernel_rfl) (by simp) ?_
    refine AllReadyH.cons rfl (fun K hK => ?_) AllReadyH.nil
    go_simp
    refine (HH.out _ HHo2.out).mono ?_
    rintro e w2 ⟨rfl, rfl⟩
    go_wp2_with fail
    refine hK.out _ _ hHeld (fun hHeld => ?_)
    clear hK K
    try simp only [Act.put, List.setIfInBounds_toArray, List.set_cons_zero, List.set_cons_succ]
    refine wpAnyH_take (i := 9) (v := ?_) opAt_9 (by kernel_rfl) (by kernel_rfl) (by kernel_rfl) (fun _ _ _ h => h) (Or.inl ⟨by rfl, ?_⟩) hHeld ?_
    rotate_left
    · (intro w' hSw; obtain ⟨k6, k4⟩ := hSw; go_simp; try with_reducible rfl)
    try simp only [Act.put, List.setIfInBounds_toArray, List.set_cons_zero, List.set_cons_succ]
    refine wpAnyH_done (by kernel_rfl) ?_ _
    refine NoPanic.normal ?_
    clear hHeld hwr HON
    cases bz
    case false =>
      have hz : s.fuse = some 0 := by have h1 := Hbz.out; simpa using h1
      have hc5 := HC2.out.c5
      have hf5 := HC2.out.f5
      go_wp2_with fail
      go_ret
      obtain ⟨hB1, hB2⟩ := HA.out.beginOff HO.out hz (HG2.out.trans (chg_set W A 5 (.bool false)) (fun i e => .inl e)) (by rw [← Hst1.out]; exact HC2.out.set5 false)
      have hs : stepF s k = (20, (beginF s).2) := by unfold stepF; rw [hB2]; simp
      rw [Hans.out, hs]
      refine ⟨rfl, M, R, ?_, (HG2.out.trans (chg_set W A 5 (.bool false)) (fun i e => .inl e)).mono (fun i e => by rw [e]; exact HMA.out), fun _ => .inl, fun _ => .inl⟩
      have hbi := beginF_is s
      have hu : (beginF s).2.used = s.used := by unfold FsP.used; rw [hbi.1, hbi.2.1]
      rw [hu]
      exact ⟨X, B, n, _, K, g, MX, MF, hB1, by rw [hbi.1]; exact Hn.out.1, by rw [hbi.1]; exact Hn.out.2.1, by rw [hbi.1]; exact Hn.out.2.2.1⟩
    case true =>
      have hz : s.fuse ≠ some 0 := by have h1 := Hbz.out; simpa using h1
      obtain ⟨hB1, hB2⟩ := HA.out.beginOn HO.out hz HG2.out (by rw [← Hst1.out]; exact HC2.out)
      have hs : stepF s k = k (beginF s).2 := by unfold stepF; rw [if_pos hB2]
      rw [hs] at Hans
      have hbi := beginF_is s
      have HD1 := Lib.hid (HD.out hB2)
      have HI1 := Lib.hid (HI.out hB2)
      have HU1 := Lib.hid (HU.out hB2)
      have hF1 : FInv (beginF s).2 q T := HF.out.same hbi.1 hbi.2.1
      have Hbi := Lib.hid hbi
      clear HD HI HU hB2 hs hz Hbz
      generalize (beginF s).2 = s1 at *
      have HM1 : Hid (FsM W A s.used M R s1) := ⟨X, B, n, _, K, g, MX, MF, hB1, by rw [hbi.1]; exact Hn.out.1, by rw [hbi.1]; exact Hn.out.2.1, by rw [hbi.1]; exact Hn.out.2.2.1⟩
      have HV1 := Lib.hid (HV.out.chg HG2.out (fun i e => by rw [e]; exact HN.out A HMA.out))
      have hb1 := kbytesOf hB1 (by rw [hbi.1]; exact Hn.out.2.2.2.1) (fun i hi => by rw [hbi.2.1]; exact Nat.le_trans (Hn.out.2.2.2.2 i hi) (by omega)) (Nat.le_trans (hF1.bytesN_le ns) (Nat.le_trans (Nat.mul_le_mul hlen hT) (by decide))) HV1.out HNS.out (by omega)
      have HBo := Lib.hid hb1
      have hle0 := Nat.le_trans (hF1.bytesN_le ns) (Nat.mul_le_mul hlen hT)
      obtain ⟨a0, ha0⟩ : ∃ a0, a0 = bytesN s1.file s1.dir.now ns := ⟨_, rfl⟩
      rw [← ha0] at HBo hle0
      have Ha0 := Lib.hid ha0
      clear hb1 ha0 hB1 hF1 hbi
      go_wp2_with fail
      refine HBo.out.mono ?_
      rintro e W2 ⟨rfl, hb2⟩
      have HM2 := Lib.hid (HM1.out.on hb2)
      have HG3 : Hid (Chg (fun i => i = A) w W2) := HG2.out.trans (Chg.of_below (M := fun _ => False) hb2) (fun i e => e.elim)
      have HV2 := Lib.hid (HV1.out.on hb2)
      clear hb2 HBo
      go_wp2_with fail
      refine (HD1.out W2 HM2.out HG3.out).mono ?_
      rintro e W3 ⟨rfl, hmut⟩
      obtain ⟨M3, R3, hm3, hg3, h31, h32⟩ := hmut
      have HV3 := Lib.hid ((HV2.out.chg hg3 HN.out).on ((Below.refl W3.heap.size W3).drew))
      obtain ⟨q', hI⟩ := HI1.out
      have HG4 : Hid (Chg M w W3.drew) := ((HG3.out.mono (fun i e => by rw [e]; exact HMA.out)).trans hg3 (fun i e => .inl e)).drew
      have HS4 : Hid (w.heap.size ≤ W2.heap.size) := HG3.out.size
      have HM4 := Lib.hid hm3.drew
      have H31 := Lib.hid h31
      have H32 := Lib.hid h32
      have hU := HU1.out
      have hlen2 := Nat.le_trans (hI.bytesN_le ns) (Nat.mul_le_mul hlen (show T + 1200 ≤ 101200 by omega))
      have hus2 := hI.used_le
      have hus1 := (HF.out).used_le
      have hbN : bytesN s.file s.dir.now ns = a0 := by rw [Ha0.out, Hbi.out.1, Hbi.out.2.1]
      rw [hbN] at hU
      generalize k s1 = ks at *
      obtain ⟨X3, B3, n3, hv3, K3, g3, MX3, MF3, ha3, hn31, hn32, hn33, hnow3, hbig3⟩ := HM4.out.kfacts hI
      have hb4 := kbytesOf ha3 hnow3 (fun i hi => Nat.le_trans (hbig3 i hi) (by omega)) (Nat.le_trans hlen2 (by decide)) HV3.out HNS.out (by omega)
      have HBo := Lib.hid hb4
      have HC3 := Lib.hid ha3.cells
      obtain ⟨a1, ha1⟩ : ∃ a1, a1 = bytesN ks.2.file ks.2.dir.now ns := ⟨_, rfl⟩
      rw [← ha1] at HBo hU hlen2
      obtain ⟨u1, hu1⟩ : ∃ u1, u1 = s.used := ⟨_, rfl⟩
      rw [← hu1] at HC3 HM4 hU hus1
      obtain ⟨u2, hu2⟩ : ∃ u2, u2 = ks.2.used := ⟨_, rfl⟩
      rw [← hu2] at hU hus2
      have Hu2 := Lib.hid hu2
      obtain ⟨dI, hdI⟩ : ∃ dI : Int, dI = (a1 : Int) - (a0 : Int) := ⟨_, rfl⟩
      have hw1 : IntKind.i64.wrap ((a1 : Int) - (a0 : Int)) = dI := by rw [IntWalk.i64_in _ (by omega), hdI]
      have hw2 : IntKind.i64.wrap ((u1 : Int) + dI) = (u2 : Int) := by rw [IntWalk.i64_in _ (by omega)]; omega
      clear hb4 ha3 hn31 hn32 hn33 hnow3 hbig3 ha1 hu1 hu2 hdI hU hus1 hus2 hlen2 hm3 hg3 h31 h32 hI hbN hle0
      go_wp2_with fail
      refine wp_region_noPanic ?_
      refine OrdL.wpL_region (fun w' => w'.cell? ⟨A, 3, none⟩ = some (.int .i64 (u1 : Int))) 12 (by kernel_rfl) ?_
      generalize World.drew _ = W4 at *
      have hHeld := HC3.out.c3
      refine OrdL.wpL_take (i := 0) (v := ?_) opAt_0 [] (by kernel_rfl) (by kernel_rfl) (by kernel_rfl) (by kernel_rfl) (by kernel_rfl) (by kernel_rfl) (fun _ _ _ h => h) (Or.inl ⟨by rfl, ?_⟩) hHeld ?_
      rotate_left
      · (intro w' hSw; go_simp; try with_reducible rfl)
      try simp only [Act.put, List.setIfInBounds_toArray, List.set_cons_zero, List.set_cons_succ]
      refine OrdL.wpL_take (i := 1) (v := ?_) opAt_1 [] (by kernel_rfl) (by kernel_rfl) (by kernel_rfl) (by kernel_rfl) (by kernel_rfl) (by kernel_rfl) (fun _ _ _ h => h) (Or.inl ⟨by rfl, ?_⟩) hHeld ?_
      rotate_left
      · (intro w' hSw; go_simp; try with_reducible rfl)
      try simp only [Act.put, List.setIfInBounds_toArray, List.set_cons_zero, List.set_cons_succ]
      refine OrdL.wpL_take (i := 2) (v := ?_) opAt_2 [] (by kernel_rfl) (by kernel_rfl) (by kernel_rfl) (by kernel_rfl) (by kernel_rfl) (by kernel_rfl) (fun _ _ _ h => h) (Or.inl ⟨by rfl, ?_⟩) hHeld ?_
      rotate_left
      · (intro w' hSw; go_simp; try with_reducible rfl)
      try simp only [Act.put, List.setIfInBounds_toArray, List.set_cons_zero, List.set_cons_succ]
      refine OrdL.wpL_take (i := 3) (v := ?_) opAt_3 [] (by kernel_rfl) (by kernel_rfl) (by kernel_rfl) (by kernel_rfl) (by kernel_rfl) (by kernel_rfl) (fun _ _ _ h => h) (Or.inl ⟨by rfl, ?_⟩) hHeld ?_
      rotate_left
      · (intro w' hSw; go_simp; try with_reducible rfl)
      try simp only [Act.put, List.setIfInBounds_toArray, List.set_cons_zero, List.set_cons_succ]
      refine OrdL.wpL_take (i := 4) (v := ?_) opAt_4 [] (by kernel_rfl) (by kernel_rfl) (by kernel_rfl) (by kernel_rfl) (by kernel_rfl) (by kernel_rfl) (fun _ _ _ h => h) (Or.inl ⟨by rfl, ?_⟩) hHeld ?_
      rotate_left
      · (intro w' hSw; go_simp; try with_reducible rfl)
      try simp only [Act.put, List.setIfInBounds_toArray, List.set_cons_zero, List.set_cons_succ]
      refine OrdL.wpL_take (i := 5) (v := ?_) opAt_5 [] (by kernel_rfl) (by kernel_rfl) (by kernel_rfl) (by kernel_rfl) (by kernel_rfl) (by kernel_rfl) (fun _ _ _ h => h) (Or.inl ⟨by rfl, ?_⟩) hHeld ?_
      rotate_left
      · (intro w' hSw; go_simp; try with_reducible rfl)
      try simp only [Act.put, List.setIfInBounds_toArray, List.set_cons_zero, List.set_cons_succ]
      refine OrdL.wpL_take (i := 7) (v := ?_) opAt_7 [] (by kernel_rfl) (by kernel_rfl) (by kernel_rfl) (by kernel_rfl) (by kernel_rfl) (by kernel_rfl) (fun _ _ _ h => h) (Or.inl ⟨by rfl, ?_⟩) hHeld ?_
      rotate_left
      · (intro w' hSw; go_simp; try with_reducible rfl)
      try simp only [Act.put, List.setIfInBounds_toArray, List.set_cons_zero, List.set_cons_succ]
      refine OrdL.wpL_ready (rs := [6]) (by kernel_rfl) (by simp) ?_
      refine OrdL.AllL.cons rfl (fun K hK => ?_) OrdL.AllL.nil
      go_simp
      refine HBo.out.mono ?_
      rintro e W5 ⟨rfl, hb5⟩
      go_wp2_with fail
      have HC5 := Lib.hid (HC3.out.on_ hb5)
      have HM5 := Lib.hid (HM4.out.on hb5)
      have HG5 : Hid (Chg M w W5) := HG4.out.trans (Chg.of_below (M := fun _ => False) hb5) (fun i e => e.elim)
      clear hHeld hb5
      have hHeld := HC5.out.c3
      refine hK.out _ _ (fun _ => hHeld) ?_
      clear hK K
      try simp only [Act.put, List.setIfInBounds_toArray, List.set_cons_zero, List.set_cons_succ]
      refine OrdL.wpL_take (i := 8) (v := ?_) opAt_8 [] (by kernel_rfl) (by kernel_rfl) (by kernel_rfl) (by kernel_rfl) (by kernel_rfl) (by kernel_rfl) (fun _ _ _ h => h) (Or.inl ⟨by rfl, ?_⟩) hHeld ?_
      rotate_left
      · (intro w' hSw; go_simp; try with_reducible rfl)
      try simp only [Act.put, List.setIfInBounds_toArray, List.set_cons_zero, List.set_cons_succ]
      refine OrdL.wpL_take (i := 9) (v := ?_) opAt_9 [] (by kernel_rfl) (by kernel_rfl) (by kernel_rfl) (by kernel_rfl) (by kernel_rfl) (by kernel_rfl) (fun _ _ _ h => h) (Or.inl ⟨by rfl, ?_⟩) hHeld ?_
      rotate_left
      · (intro w' hSw; go_simp; try with_reducible rfl)
      try simp only [Act.put, List.setIfInBounds_toArray, List.set_cons_zero, List.set_cons_succ]
      refine OrdL.wpL_take (i := 10) (v := ?_) opAt_10 [11] (by kernel_rfl) (by kernel_rfl) (by kernel_rfl) (by kernel_rfl) (by kernel_rfl) (by kernel_rfl) (fun _ _ _ h => h) (Or.inl ⟨by rfl, ?_⟩) hHeld ?_
      rotate_left
      · (intro w' hSw; go_simp; try with_reducible rfl)
      try simp only [Act.put, List.setIfInBounds_toArray, List.set_cons_zero, List.set_cons_succ]
      refine OrdL.wpL_take (i := 11) (v := ?_) opAt_11 [] (by kernel_rfl) (by kernel_rfl) (by kernel_rfl) (by kernel_rfl) (by kernel_rfl) (by kernel_rfl) (fun _ _ _ h => h) (Or.inl ⟨by rfl, ?_⟩) hHeld ?_
      rotate_left
      · (intro w' hSw; go_simp; try with_reducible rfl)
      try simp only [Act.put, List.setIfInBounds_toArray, List.set_cons_zero, List.set_cons_succ]
      refine OrdL.wpL_ready (rs := [12]) (by kernel_rfl) (by simp) ?_
      refine OrdL.AllL.cons rfl (fun K hK => ?_) OrdL.AllL.nil
      have f3 := HC5.out.f3
      go_simp
      refine hK.out _ _ (fun h => by simp at h) ?_
      refine OrdL.wpL_done (by kernel_rfl) ?_ _
      refine NoPanic.normal ?_
      go_wp2_with fail
      go_ret
      rw [Hans.out, ← Hu2.out]
      exact ⟨rfl, M3, R3, HM5.out.setU u2, HG5.out.setCell (HMA.out) _, fun i e => (H31.out i e).imp id (fun e => Nat.le_trans HS4.out e), fun i e => (H32.out i e).imp id (fun e => Nat.le_trans HS4.out e)⟩
end
end Go.Proofs.YtaicibmaogiibaaGreatDoor

/-
  Layer 7: how many bytes the files have, call by call (plain mathematics).
-/
set_option linter.unusedVariables false
set_option linter.unusedSimpArgs false
namespace Go.Proofs.YtaicibmaogiibaaGreatDoor
open Go.RowKit Go.Maps

theorem usedL_cons (g : Nat → FSt) (x : Ent) (l : List Ent) : usedL g (x :: l) = (g x.2).bytes.length + usedL g l := by simp [usedL]
theorem usedL_insL (g : Nat → FSt) (n : ByteArray) (i : Nat) : ∀ m : List Ent, usedL g (insL n i m) = usedL g m + (g i).bytes.length
  | [] => by simp [insL, usedL]
  | x :: r => by
    unfold insL
    split
    · simp only [usedL_cons]; omega
    · simp only [usedL_cons, usedL_insL g n i r]; omega
theorem usedL_congr {g h : Nat → FSt} {l : List Ent} (e : ∀ x, x ∈ l → h x.2 = g x.2) : usedL h l = usedL g l := by
  unfold usedL
  congr 1
  exact List.map_congr_left (fun x hx => by rw [e x hx])
theorem withoutL_none {l : List Ent} {n : ByteArray} (h : ∀ x, x ∈ l → x.1 ≠ n) : withoutL l n = l := by
  unfold withoutL
  exact List.filter_eq_self.2 (fun x hx => by simpa using toList_ne (h x hx))
theorem usedL_split (g : Nat → FSt) {l : List Ent} (hs : SortE l) (n : ByteArray) : usedL g l = usedL g (withoutL l n) + lenAt g l n := by
  induction l with
  | nil => simp [usedL, lenAt, withoutL, findL]
  | cons x r ih =>
    have hr : SortE r := (List.pairwise_cons.1 hs).2
    by_cases e : x.1 = n
    · have h1 : ∀ y, y ∈ r → y.1 ≠ n := fun y hy e' => (List.pairwise_cons.1 hs.ne).1 y hy (e.trans e'.symm)
      have h2 : withoutL (x :: r) n = r := by
        have h3 := withoutL_none h1
        unfold withoutL at h3 ⊢
        rw [List.filter_cons_of_neg (by simp [e]), h3]
      have h4 : lenAt g (x :: r) n = (g x.2).bytes.length := by
        have h5 : findL (x :: r) n = some x.2 := (findL_iff hs).2 (by rw [← e]; simp)
        unfold lenAt
        rw [h5]
      rw [h2, h4, usedL_cons]
      omega
    · have h2 : withoutL (x :: r) n = x :: withoutL r n := by
        unfold withoutL
        rw [List.filter_cons_of_pos (by simpa using toList_ne e)]
      have h4 : lenAt g (x :: r) n = lenAt g r n := by
        have h5 : findL (x :: r) n = findL r n := by
          unfold findL
          rw [List.find?_cons_of_neg (by simpa using toList_ne e)]
        unfold lenAt
        rw [h5]
      rw [h2, h4, usedL_cons, usedL_cons, ih hr]
      omega
theorem usedL_with (g : Nat → FSt) (l : List Ent) (n : ByteArray) (i : Nat) : usedL g (withL l n i) = usedL g (withoutL l n) + (g i).bytes.length := by
  rw [withL_eq, usedL_insL]
section
variable {s : FsP} {q T : Nat}
theorem used_create (hf : FInv s q T) (n : ByteArray) : (createK n s).2.used + bytesN s.file s.dir.now [n] = s.used + bytesN (createK n s).2.file (createK n s).2.dir.now [n] := by
  rw [bytesN_one, bytesN_one]
  unfold createK FsP.used createP
  split
  · simp
  · split
    · simp
    · split
      · simp
      · rename_i h1 h2 h3
        simp only [if_true]
        have hnone : findL s.dir.now n = none := by simpa using h2
        have hne := findL_none.1 hnone
        have hold : ∀ x, x ∈ s.dir.now → upd s.file (s.dir.last + 1) (FSt.new []) x.2 = s.file x.2 := fun x hx => upd_other _ _ (by have := (hf.ino.now.1 x hx).2.2; omega)
        have hnow : (s.dir.made n).now = withL s.dir.now n (s.dir.last + 1) := by unfold PSt.made; rw [PSt.push_now]; rfl
        rw [hnow]
        have e1 : usedL (upd s.file (s.dir.last + 1) (FSt.new [])) (withL s.dir.now n (s.dir.last + 1)) = usedL s.file s.dir.now := by
          rw [usedL_with, withoutL_none hne, usedL_congr hold, upd_same]
          simp [FSt.new, FSt.bytes]
        have e2 : lenAt s.file s.dir.now n = 0 := by unfold lenAt; rw [hnone]
        have e3 : lenAt (upd s.file (s.dir.last + 1) (FSt.new [])) (withL s.dir.now n (s.dir.last + 1)) n = 0 := by
          unfold lenAt
          rw [findL_with_same hf.dir.now.1]
          simp [upd_same, FSt.new, FSt.bytes]
        rw [e1, e2, e3]
theorem used_remove (hf : FInv s q T) (n : ByteArray) : (removeK n s).2.used + bytesN s.file s.dir.now [n] = s.used + bytesN (removeK n s).2.file (removeK n s).2.dir.now [n] := by
  rw [bytesN_one, bytesN_one]
  unfold removeK FsP.used removeP
  split
  · simp
  · split
    · simp only [PSt.push_now]
      have e1 := usedL_split s.file hf.dir.now.1 n
      have e2 : lenAt s.file ((Dd.rm n).app s.dir.now) n = 0 := by
        show lenAt s.file (withoutL s.dir.now n) n = 0
        unfold lenAt
        rw [findL_without_same]
      rw [e2, e1]
      rfl
    · simp
theorem used_sync (hf : FInv s q T) : (syncDirK s).2.used + bytesN s.file s.dir.now [] = s.used + bytesN (syncDirK s).2.file (syncDirK s).2.dir.now [] := by
  rw [bytesN_nil, bytesN_nil]
  have e : (s.dir.settle s.dir.deeds.length).now = s.dir.now := by
    unfold PSt.settle PSt.now
    rw [List.take_of_length_le (Nat.le_refl _)]
    rfl
  show usedL s.file (s.dir.settle s.dir.deeds.length).now + 0 = _
  rw [e]
  rfl
theorem used_on (hf : FInv s q T) (n : ByteArray) (k : FSt → Nat × FSt) : (onF s n k).2.used + bytesN s.file s.dir.now [n] = s.used + bytesN (onF s n k).2.file (onF s n k).2.dir.now [n] := by
  rw [bytesN_one, bytesN_one]
  unfold onF
  split
  · rename_i h0
    have hso := hf.dir.now.1
    generalize hj : (nodeF s n).2 = j
    have hi : findL s.dir.now n = some j := by
      unfold nodeF at h0 hj
      split at h0
      · cases h0
      · rename_i h1
        rw [if_neg h1] at hj
        cases hf2 : findL s.dir.now n with
        | none => rw [hf2] at h0; cases h0
        | some m => rw [hf2] at hj; rw [← hj]
    have hold : ∀ t : FSt, ∀ x, x ∈ withoutL s.dir.now n → upd s.file j t x.2 = s.file x.2 := fun t x hx => upd_other _ _ (fun e => by
      have h1 := mem_withoutL.1 hx
      have h2 := hf.ino.now.2 x h1.1 _ (findL_mem hi) e
      exact h1.2 (congrArg Prod.fst h2))
    unfold FsP.used
    simp only
    rw [usedL_split s.file hso n, usedL_split (upd s.file j _) hso n, usedL_congr (hold _)]
    omega
  · rfl
end
end Go.Proofs.YtaicibmaogiibaaGreatDoor

/-
  Layer 7: bury: the files whose inodes live no more are dropped.
-/
set_option linter.unusedVariables false
set_option linter.unusedSimpArgs false
namespace Go.Proofs.YtaicibmaogiibaaGreatDoor
open Go.RowKit Go.Maps

theorem hmkF (w : World) : (Instr.makeMap 81 none).run Tryz.prog w = .ok (.map (some w.heap.size)) (w.alloc (.map #[] 0)) := by
  simp [Instr.makeMap, run_underlying Tryz.underlying81, go_sem, Result.andThen]
theorem sum_ones {α : Type} : ∀ l : List α, (l.map fun _ => 1).sum = l.length
  | [] => rfl
  | x :: r => by simp only [List.map_cons, List.sum_cons, sum_ones r, List.length_cons]; omega
theorem GInv.live_few {s : PSt} (h : GInv s) (ho : s.Ok) : s.live.length ≤ s.last + 1 := by
  have hd : s.live.Nodup := (h.live_lt ho).imp (fun hlt e => by omega)
  have h1 := sum_nodup_le (f := fun _ => 1) (n := s.last) hd (fun i hi => (h.live_le ho.settled i hi).2)
  rw [sum_ones, sum_ones, List.length_range] at h1
  exact h1
section
variable {w w' : World} {A X B n u q T : Nat} {hv : Value} {K : List Nat} {g : Nat → Nat} {MX M R N : Nat → Prop} {MF : Nat → Nat → Prop} {s : FsP}
set_option maxRecDepth 100000 in
set_option maxHeartbeats 4000000 in
theorem kbury (h : FsAt w A X B n u hv K g MX MF M R s) (hlive : ∀ i, i ∈ s.dir.live → i ∈ K) (hgi : GInv s.dir) (hl : s.dir.safe.length ≤ 200) (hla : s.dir.last ≤ 10000) :
    Calls Tryz.prog 53 #[.pointer (some ⟨A, 0, none⟩)] w fun e w' => e = .returned (.tuple #[]) ∧ ∃ B' n', FsAt w' A X B' n' u hv s.dir.live g MX MF (fun i => M i ∨ i = B') R s ∧ Chg (fun i => i = A) w w' ∧ w.heap.size ≤ B' ∧ n' ≤ s.dir.live.length := by
  have H := Lib.hid h
  have HK := Lib.hid hlive
  have HL := Lib.hid (show s.dir.live.length ≤ 10001 from Nat.le_trans (hgi.live_few h.dir.ok) (by omega))
  obtain ⟨m, hm⟩ : ∃ m, m = w.heap.size := ⟨_, rfl⟩
  obtain ⟨wa, hwa⟩ : ∃ wa, wa = w.alloc (.map #[] 0) := ⟨_, rfl⟩
  have hba : Below w.heap.size w wa := by rw [hwa]; exact (Below.refl _ _).alloc (Nat.le_refl _) _
  have hU0 : MapF wa m 0 [] g := by rw [hwa, hm]; exact MapF.new w g
  have Ha := Lib.hid (H.out.on hba)
  have HBa := Lib.hid hba
  have hc0 := Ha.out.cells.c0
  have HX := Lib.hid (hlive_m Ha.out.dir hl hla)
  have HU0 := Lib.hid hU0
  have hmM : ∀ i, M i → i < m := fun i hi => by rw [hm]; exact h.ml i hi
  have hmR : ∀ i, R i → i < m := fun i hi => by rw [hm]; exact h.rl i hi
  have HmM := Lib.hid hmM
  have HmR := Lib.hid hmR
  have HA := Lib.hid (hmM A h.mA)
  have hmk : (Instr.makeMap 81 none).run Tryz.prog w = .ok (.map (some m)) wa := by rw [hm, hwa]; exact hmkF w
  have Hm := Lib.hid hm
  clear h hlive hgi hl hla hU0 hba hmM hmR hm hwa
  go_enter Tryz.func53, Tryz.ntmps53
  go_wp2_with fail
  refine HX.out.mono ?_
  rintro e w5 ⟨v, rfl, hus, hb5⟩
  have HB5 := Lib.hid (HBa.out.trans (hb5.mono HBa.out.size))
  have HU5 := Lib.hid (HU0.out.on hb5)
  have H5 := Lib.hid (Ha.out.on hb5)
  have HV5 := Lib.hid (hus.mono (R' := fun i => m < i) (fun i hi => by have := hi.1; have h1 := HU0.out.lt; omega))
  obtain ⟨A5, c5, rfl, h51, h52, _⟩ := hus
  obtain ⟨q, hq⟩ : ∃ q, q = s.dir.live.length := ⟨_, rfl⟩
  rw [← hq] at h51 HV5 HL ⊢
  have hq2 : q ≤ 10001 := HL.out
  have Hq := Lib.hid hq
  clear hb5 hq hc0
  go_wp2_with fail
  go_loopw [12] (fun i wr2 => ∃ (k n : Nat) (lU : List Nat), k ≤ q ∧ i = .int .i64 k ∧ Chg (fun i => i = m) w5 wr2 ∧ MapF wr2 m n lU g ∧ n ≤ k ∧ ∀ i, i ∈ lU ↔ i ∈ s.dir.live.take k) (fun i _ => q - (intOf i).toNat)
  case atStart => exact ⟨0, 0, [], by omega, rfl, Chg.refl, HU5.out, by omega, by simp⟩
  case round =>
    obtain ⟨k, nk, lU, hk, rfl, hch, hmu, hn, hmem⟩ := hrel
    have HCk := Lib.hid hch
    have HMk := Lib.hid hmu
    have Hmem := Lib.hid hmem
    have Hk := Lib.hid (H5.out.chg hch (fun i e => ⟨fun e' => by have := HmM.out i e'; omega, fun e' => by have := HmR.out i e'; omega⟩))
    clear hch hmu hmem
    by_cases hkq : k < q
    · have hdq : decide ((k : Int) < (q : Int)) = true := decide_eq_true (by omega)
      obtain ⟨xi, hx⟩ : ∃ x, s.dir.live[k]? = some x := ⟨s.dir.live[k]'(by have := Hq.out; omega), List.getElem?_eq_getElem _⟩
      obtain ⟨b5, o5, rfl, hb5, e0⟩ := (HV5.out.chg HCk.out (fun i hi e => by omega)).at_ rfl hx
      have hxK := HK.out xi (List.mem_of_getElem? hx)
      have hx9 : xi < 1000000000 := Hk.out.ks xi hxK
      have hlook := Hk.out.map.look hx9 hxK
      have hc0 := Hk.out.cells.c1
      obtain ⟨w6, hrun, hmu6, ht6⟩ := HMk.out.store (by omega) hx9 (g xi)
      have HM6 := Lib.hid (hmu6.congr (K' := xi :: lU) (g' := g) (fun i => Iff.rfl) (fun i hi => by unfold updN; split <;> simp_all))
      have HC6 := Lib.hid (HCk.out.trans (Chg.of_turned ht6) (fun i hi => .inl hi))
      have Hm6 : Hid (∀ i, i ∈ xi :: lU ↔ i ∈ s.dir.live.take (k + 1)) := Lib.hid (fun i => by
        rw [take_next6 hx, List.mem_cons, List.mem_append, Hmem.out i, List.mem_singleton]
        exact Or.comm)
      clear hx hb5 hmu6 ht6 hxK hx9
      generalize g xi = Fi at *
      go_wp2_with fail
      go_roundw
      case rel => exact ⟨k + 1, nk + 1, _, by omega, by go_num, HC6.out, HM6.out, by omega, Hm6.out⟩
      case measure => simp [intOf]; omega
    · have hdq : decide ((k : Int) < (q : Int)) = false := decide_eq_false (by omega)
      have hkk : k = q := by omega
      have HUl : Hid (MapF wr m nk s.dir.live g) := Lib.hid (HMk.out.congr (fun i => by rw [Hmem.out i, hkk, Hq.out, List.take_length]) (fun i hi => rfl))
      have hf1 := Hk.out.cells.f1
      have hc1 := Hk.out.cells.c1
      have HCw : Hid (Chg (fun i => i = A) w wr) := ⟨by rw [HCk.out.os, HB5.out.os], by rw [HCk.out.tape, HB5.out.tape], by rw [HCk.out.output, HB5.out.output], Nat.le_trans HB5.out.size HCk.out.size, fun i hi hn => (HCk.out.block i (Nat.lt_of_lt_of_le hi HB5.out.size) (fun e => by have := Hm.out; omega)).trans (HB5.out.block i hi)⟩
      go_wp2_with fail
      go_end0
      exact ⟨rfl, m, nk, Hk.out.swap HUl.out HK.out (fun e => by have := HmM.out m e; omega) (fun e => by have := HmR.out m e; omega), HCw.out.setCell rfl _, by have := Hm.out; omega, by have := Hq.out; omega⟩
end
end Go.Proofs.YtaicibmaogiibaaGreatDoor

/- JfShut -/

/-
  Layer 7: what is handed to a step, over the folder: SyncDir, Rename, Remove, Create.
-/
set_option linter.unusedVariables false
set_option linter.unusedSimpArgs false
namespace Go.Proofs.YtaicibmaogiibaaGreatDoor
open Go.RowKit Go.Maps

theorem cell_keep {w w' : World} {N : Nat → Prop} (hc : Chg N w w') {p o : Nat} (hp : ¬ N p) {u : Value} (h : w.cell? ⟨p, o, none⟩ = some u) : w'.cell? ⟨p, o, none⟩ = some u := (hc.cell (p := ⟨p, o, none⟩) (fblock_of_cell h) hp).trans h
theorem live_settle {s : PSt} (hg : GInv s) (ho : s.settled ≤ s.last) {k : Nat} (hk : k ≤ s.deeds.length) : ∀ i, i ∈ (s.settle k).live → i ∈ s.live := fun i hi => by
  rcases (mem_live (s := s.settle k) (Nat.le_refl _)).1 hi with ⟨y, hy, rfl⟩ | h1
  · rcases hg.old k hk y hy with h2 | h2
    · exact (mem_live ho).2 (.inl h2)
    · exact (mem_live ho).2 (.inr ⟨h2, ((hg.pre k hk).1 y hy).2.2⟩)
  · have h1 : s.last < i ∧ i ≤ s.last := h1
    omega
theorem live_remove (s : PSt) (a : ByteArray) : (removeP s a).2.live = s.live ∧ (removeP s a).2.last = s.last := by
  unfold removeP
  split
  · exact ⟨rfl, rfl⟩
  · split <;> exact ⟨rfl, rfl⟩
theorem createP_told (s : PSt) (n : ByteArray) : (∃ c, createP s n = (0, c, s) ∧ c ≠ 0) ∨ createP s n = (s.last + 1, 0, s.made n) := by
  unfold createP
  split
  · exact .inl ⟨1, rfl, by decide⟩
  · split
    · exact .inl ⟨9, rfl, by decide⟩
    · split
      · exact .inl ⟨7, rfl, by decide⟩
      · exact .inr rfl
theorem live_made {s : PSt} (ho : s.settled ≤ s.last) (n : ByteArray) : ∀ i, i ∈ (s.made n).live → i ∈ s.live ∨ i = s.last + 1 := fun i hi => by
  have h0 : (s.made n).settled ≤ (s.made n).last := by show s.settled ≤ s.last + 1; omega
  rcases (mem_live h0).1 hi with h1 | h1
  · exact .inl ((mem_live ho).2 (.inl h1))
  · have h1 : s.settled < i ∧ i ≤ s.last + 1 := h1
    by_cases e : i = s.last + 1
    · exact .inr e
    · exact .inl ((mem_live ho).2 (.inr (by omega)))
section
variable {w w' : World} {A u q T p c d : Nat} {M R N : Nat → Prop} {s : FsP}
/-- the folder has changed -/
theorem FsM.dir_mut {X B n : Nat} {hv : Value} {K : List Nat} {g : Nat → Nat} {MX : Nat → Prop} {MF : Nat → Nat → Prop} (h : FsAt w A X B n u hv K g MX MF M R s) (hn : n ≤ s.dir.last + 1) (hK : ∀ i, i ∈ K → i ≤ s.dir.last) (hl : ∀ i, i ∈ s.dir.live → i ∈ K) {d : PSt} (hm : HMut w w' X MX R d)
    (h1 : d.last = s.dir.last) (h2 : d.live = s.dir.live) : FsMut w w' A u M R { s with dir := d } := by
  obtain ⟨MX', M', R', h3, h4, h5, h6⟩ := h.dir_mut hm
  exact ⟨M', R', ⟨X, B, n, hv, K, g, MX', MF, h3, by show n ≤ d.last + 1; omega, fun i hi => by show i ≤ d.last; have := hK i hi; omega, fun i hi => hl i (by rw [← h2]; exact hi)⟩, h4, h5, h6⟩
set_option maxRecDepth 100000 in
set_option maxHeartbeats 4000000 in
theorem ksyncdir1 (h : FsM w A u M R s) (hf : FInv s q T) (hq : q ≤ 200) (hp : ¬ M p) (cp : w.cell? ⟨p, 0, none⟩ = some (.pointer (some ⟨A, 0, none⟩))) :
    Calls Tryz.prog 121 #[.pointer (some ⟨p, 0, none⟩)] w fun e w' => e = .returned (.int .i64 ((syncDirK s).1 : Int)) ∧ FsMut w w' A u M R (syncDirK s).2 := by
  obtain ⟨X, B, n, hv, K, g, MX, MF, ha, hn1, hn2, hn3, _, _⟩ := h.kfacts hf
  have HS := Lib.hid (hsync ha.dir)
  have Ha := Lib.hid ha
  have Hf := Lib.hid hf
  have Hn := Lib.hid (show n ≤ s.dir.last + 1 ∧ (∀ i, i ∈ K → i ≤ s.dir.last) ∧ (∀ i, i ∈ s.dir.live → i ∈ K) from ⟨hn1, hn2, hn3⟩)
  have hc0 := ha.cells.c0
  clear h ha hf hn1 hn2 hn3
  go_enter Tryz.func121, Tryz.ntmps121
  go_wp2_with fail
  refine HS.out.mono ?_
  rintro e w1 ⟨rfl, hm⟩
  obtain ⟨MX', M', R', h3, h4, h5, h6⟩ := Ha.out.dir_mut hm
  have hf1 : GInv (s.dir.settle s.dir.deeds.length) := Hf.out.ino.settle (Nat.le_refl _)
  have hla : s.dir.last ≤ q := Hf.out.last
  have hfew := Nat.le_trans (settle_big s.dir s.dir.deeds.length) Hf.out.few
  have HB := Lib.hid (kbury h3 (fun i hi => Hn.out.2.2 i (live_settle Hf.out.ino Hf.out.dir.settled (Nat.le_refl _) i hi)) hf1 (by unfold PSt.big at hfew; show (s.dir.settle s.dir.deeds.length).safe.length ≤ 200; omega) (by show s.dir.last ≤ 10000; omega))
  have H4 := Lib.hid h4
  have H5 := Lib.hid h5
  have H6 := Lib.hid h6
  have Hfe := Lib.hid (hf1.live_few h3.dir.ok)
  have hlt : ∀ i, i ∈ (s.dir.settle s.dir.deeds.length).live → i ≤ s.dir.last := fun i hi => (hf1.live_le (Nat.le_refl _) i hi).2
  have Hlt := Lib.hid hlt
  have HMA := Lib.hid h3.mA
  have cp1 := cell_keep h4 hp cp
  clear hm h3 h4 h5 h6 hf1 hfew hlt hc0
  go_wp2_with fail
  refine HB.out.mono ?_
  rintro e w2 ⟨rfl, B', n', h7, h8, h9, h10⟩
  have HF : Hid (FsMut w w2 A u M R (syncDirK s).2) := by
    have hs4 := H4.out.size
    refine ⟨_, R', ⟨X, B', n', hv, _, g, MX', MF, h7, Nat.le_trans h10 Hfe.out, Hlt.out, fun i hi => hi⟩, H4.out.trans h8 (fun i e => by rw [e]; exact H5.out A HMA.out), ?_, H6.out⟩
    rintro i (hi | hi)
    · exact H5.out i hi
    · exact .inr (by omega)
  clear h7 h8 h9 h10 cp1
  go_wp2_with fail
  go_ret
  exact ⟨rfl, HF.out⟩
set_option maxRecDepth 100000 in
set_option maxHeartbeats 4000000 in
theorem kremove1 {nm : ByteArray} (hnm : nm.size ≤ maxLen) (h : FsM w A u M R s) (hf : FInv s q T) (hq : q ≤ 200) (hp : ¬ M p) (cp : w.cell? ⟨p, 0, none⟩ = some (.pointer (some ⟨A, 0, none⟩))) (hc : ¬ M c) (cc : w.cell? ⟨c, 0, none⟩ = some (.string nm)) :
    Calls Tryz.prog 123 #[.pointer (some ⟨p, 0, none⟩), .pointer (some ⟨c, 0, none⟩)] w fun e w' => e = .returned (.int .i64 ((removeK nm s).1 : Int)) ∧ FsMut w w' A u M R (removeK nm s).2 := by
  obtain ⟨X, B, n, hv, K, g, MX, MF, ha, hn1, hn2, hn3, _, _⟩ := h.kfacts hf
  obtain ⟨d1, hd1⟩ : ∃ d1, d1 = removeP s.dir nm := ⟨_, rfl⟩
  have hK1 : removeK nm s = (d1.1, { s with dir := d1.2 }) := by rw [hd1]; rfl
  rw [hK1]
  have hfew : s.dir.safe.length + s.dir.deeds.length < 100000 := by have := hf.few; unfold PSt.big at this; omega
  have HS : Hid (∀ w1, FsAt w1 A X B n u hv K g MX MF M R s → Calls Tryz.prog 124 #[.pointer (some ⟨X, 0, none⟩), .string nm] w1 fun e w' => e = .returned (.int .i64 (d1.1 : Int)) ∧ HMut w1 w' X MX R d1.2) := fun w1 h1 => by rw [hd1]; exact hremove h1.dir hfew nm (by unfold maxLen at hnm; omega)
  have Ha := Lib.hid ha
  have HaD := Lib.hid ha.drew
  have Hn := Lib.hid (show n ≤ s.dir.last + 1 ∧ (∀ i, i ∈ K → i ≤ s.dir.last) ∧ (∀ i, i ∈ s.dir.live → i ∈ K) from ⟨hn1, hn2, hn3⟩)
  have hc0 := ha.cells.c0
  have Hd := Lib.hid hd1
  clear h ha hf hn1 hn2 hn3 hd1 hK1 hfew
  go_enter Tryz.func123, Tryz.ntmps123
  go_wp2_with fail
  refine wp_region_noPanic ?_
  refine wp_region_held_drew (S := fun w' => w'.cell? ⟨p, 0, none⟩ = some (.pointer (some ⟨A, 0, none⟩)) ∧ w'.cell? ⟨c, 0, none⟩ = some (.string nm) ∧ w'.cell? ⟨A, 0, none⟩ = some (.pointer (some ⟨X, 0, none⟩))) (by kernel_rfl) ⟨cp, cc, hc0⟩ (fun hHeld => ?_)
  clear hc0 cp cc
  have HB0 : Hid (Below w.heap.size w w.drew) := (Below.refl _ _).drew
  generalize World.drew _ = W at *
  refine wpAnyH_take (i := 0) (v := ?_) opAt_0 (by kernel_rfl) (by kernel_rfl) (by kernel_rfl) (fun _ _ _ h => h) (Or.inl ⟨by rfl, ?_⟩) hHeld ?_
  rotate_left
  · (intro w' hSw; obtain ⟨k0, k1, k2⟩ := hSw; go_simp; try with_reducible rfl)
  try simp only [Act.put, List.setIfInBounds_toArray, List.set_cons_zero, List.set_cons_succ]
  refine wpAnyH_take (i := 1) (v := ?_) opAt_1 (by kernel_rfl) (by kernel_rfl) (by kernel_rfl) (fun _ _ _ h => h) (Or.inl ⟨by rfl, ?_⟩) hHeld ?_
  rotate_left
  · (intro w' hSw; obtain ⟨k0, k1, k2⟩ := hSw; go_simp; try with_reducible rfl)
  try simp only [Act.put, List.setIfInBounds_toArray, List.set_cons_zero, List.set_cons_succ]
  refine wpAnyH_take (i := 2) (v := ?_) opAt_2 (by kernel_rfl) (by kernel_rfl) (by kernel_rfl) (fun _ _ _ h => h) (Or.inl ⟨by rfl, ?_⟩) hHeld ?_
  rotate_left
  · (intro w' hSw; obtain ⟨k0, k1, k2⟩ := hSw; go_simp; try with_reducible rfl)
  try simp only [Act.put, List.setIfInBounds_toArray, List.set_cons_zero, List.set_cons_succ]
  refine wpAnyH_take (i := 3) (v := ?_) opAt_3 (by kernel_rfl) (by kernel_rfl) (by kernel_rfl) (fun _ _ _ h => h) (Or.inl ⟨by rfl, ?_⟩) hHeld ?_
  rotate_left
  · (intro w' hSw; obtain ⟨k0, k1, k2⟩ := hSw; go_simp; try with_reducible rfl)
  try simp only [Act.put, List.setIfInBounds_toArray, List.set_cons_zero, List.set_cons_succ]
  refine wpAnyH_take (i := 4) (v := ?_) opAt_4 (by kernel_rfl) (by kernel_rfl) (by kernel_rfl) (fun _ _ _ h => h) (Or.inl ⟨by rfl, ?_⟩) hHeld ?_
  rotate_left
  · (intro w' hSw; obtain ⟨k0, k1, k2⟩ := hSw; go_simp; try with_reducible rfl)
  try simp only [Act.put, List.setIfInBounds_toArray, List.set_cons_zero, List.set_cons_succ]
  refine wpAnyH_ready (rs := [5]) (by kernel_rfl) (by simp) ?_
  refine AllReadyH.cons rfl (fun K hK => ?_) AllReadyH.nil
  go_simp
  refine (HS.out _ HaD.out).mono ?_
  rintro e w1 ⟨rfl, hm⟩
  have HF := Lib.hid (FsM.dir_mut HaD.out Hn.out.1 Hn.out.2.1 Hn.out.2.2 hm (Hd.out ▸ live_remove s.dir nm).2 (Hd.out ▸ live_remove s.dir nm).1)
  have hk : w1.cell? ⟨p, 0, none⟩ = some (.pointer (some ⟨A, 0, none⟩)) ∧ w1.cell? ⟨c, 0, none⟩ = some (.string nm) ∧ w1.cell? ⟨A, 0, none⟩ = some (.pointer (some ⟨X, 0, none⟩)) := ⟨cell_keep hm.choose_spec.choose_spec.2.1 (fun e => hp (Ha.out.mX _ e)) hHeld.1, cell_keep hm.choose_spec.choose_spec.2.1 (fun e => hc (Ha.out.mX _ e)) hHeld.2.1, cell_keep hm.choose_spec.choose_spec.2.1 Ha.out.xA hHeld.2.2⟩
  clear hm
  try go_wp2_with fail
  refine hK.out _ _ hk (fun hHeld => ?_)
  clear hK K
  try simp only [Act.put, List.setIfInBounds_toArray, List.set_cons_zero, List.set_cons_succ]
  refine wpAnyH_take (i := 6) (v := ?_) opAt_6 (by kernel_rfl) (by kernel_rfl) (by kernel_rfl) (fun _ _ _ h => h) (Or.inl ⟨by rfl, ?_⟩) hHeld ?_
  rotate_left
  · (intro w' hSw; obtain ⟨k0, k1, k2⟩ := hSw; go_simp; try with_reducible rfl)
  try simp only [Act.put, List.setIfInBounds_toArray, List.set_cons_zero, List.set_cons_succ]
  refine wpAnyH_done (by kernel_rfl) ?_ _
  refine NoPanic.normal ?_
  go_wp2_with fail
  go_ret
  obtain ⟨M', R', k1, k2, k3, k4⟩ := HF.out
  exact ⟨rfl, FsMut.after (Chg.of_below (M := M) HB0.out) (fun _ => .inl) (fun _ => .inl) ⟨M', R', k1, k2, k3, k4⟩⟩
set_option maxRecDepth 100000 in
set_option maxHeartbeats 4000000 in
theorem kcreate1 {nm : ByteArray} (hnm : nm.size ≤ maxLen) (h : FsM w A u M R s) (hf : FInv s q T) (hq : q ≤ 200) (hp : ¬ M p) (cp : w.cell? ⟨p, 0, none⟩ = some (.pointer (some ⟨A, 0, none⟩))) (hc : ¬ M c) (cc : w.cell? ⟨c, 0, none⟩ = some (.string nm)) :
    Calls Tryz.prog 116 #[.pointer (some ⟨p, 0, none⟩), .pointer (some ⟨c, 0, none⟩)] w fun e w' => e = .returned (.int .i64 ((createK nm s).1 : Int)) ∧ FsMut w w' A u M R (createK nm s).2 := by
  obtain ⟨X, B, n, hv, K, g, MX, MF, ha, hn1, hn2, hn3, _, _⟩ := h.kfacts hf
  have hfew : s.dir.safe.length + s.dir.deeds.length < 100000 := by have := hf.few; unfold PSt.big at this; omega
  have hla : s.dir.last ≤ 200 := Nat.le_trans hf.last hq
  have HS0 : Hid (∀ w1, FsAt w1 A X B n u hv K g MX MF M R s → Calls Tryz.prog 117 #[.pointer (some ⟨X, 0, none⟩), .string nm] w1 fun e w' => e = .returned (.tuple #[.int .u64 ((createP s.dir nm).1 : Int), .int .i64 ((createP s.dir nm).2.1 : Int)]) ∧ HMut w1 w' X MX R (createP s.dir nm).2.2) :=
    fun w1 h1 => hcreate h1.dir hfew (by omega) nm (by unfold maxLen at hnm; omega)
  have Ha := Lib.hid ha
  have HaD := Lib.hid ha.drew
  have Hn := Lib.hid (show n ≤ s.dir.last + 1 ∧ (∀ i, i ∈ K → i ≤ s.dir.last) ∧ (∀ i, i ∈ s.dir.live → i ∈ K) from ⟨hn1, hn2, hn3⟩)
  have hc0 := ha.cells.c0
  have Hset := Lib.hid hf.dir.settled
  have hpl := fblock_of_cell cp
  clear h ha hf hn2 hn3 hfew
  have HB0 : Hid (Below w.heap.size w w.drew) := (Below.refl _ _).drew
  have HSz : Hid (w.drew.heap.size = w.heap.size) := rfl
  rcases createP_told s.dir nm with ⟨cd, hcr, hcd⟩ | hcr
  · have hK1 : createK nm s = (cd, s) := by unfold createK; rw [hcr]; simp [hcd]
    rw [hK1]
    rw [hcr] at HS0
    have HS : Hid (∀ w1, FsAt w1 A X B n u hv K g MX MF M R s → Calls Tryz.prog 117 #[.pointer (some ⟨X, 0, none⟩), .string nm] w1 fun e w' => e = .returned (.tuple #[.int .u64 0, .int .i64 (cd : Int)]) ∧ HMut w1 w' X MX R s.dir) := HS0.out
    have hcd2 : decide ((cd : Int) = 0) = false := decide_eq_false (by omega)
    clear hcr hK1 HS0
    go_enter Tryz.func116, Tryz.ntmps116
    go_wp2_with fail
    refine wp_region_noPanic ?_
    refine wp_region_held_drew (S := fun w' => w'.cell? ⟨p, 0, none⟩ = some (.pointer (some ⟨A, 0, none⟩)) ∧ w'.cell? ⟨c, 0, none⟩ = some (.string nm) ∧ w'.cell? ⟨A, 0, none⟩ = some (.pointer (some ⟨X, 0, none⟩))) (by kernel_rfl) ⟨cp, cc, hc0⟩ (fun hHeld => ?_)
    clear hc0 cp cc
    generalize World.drew _ = W at *
    refine wpAnyH_take (i := 0) (v := ?_) opAt_0 (by kernel_rfl) (by kernel_rfl) (by kernel_rfl) (fun _ _ _ h => h) (Or.inl ⟨by rfl, ?_⟩) hHeld ?_
    rotate_left
    · (intro w' hSw; obtain ⟨k0, k1, k2⟩ := hSw; go_simp; try with_reducible rfl)
    try simp only [Act.put, List.setIfInBounds_toArray, List.set_cons_zero, List.set_cons_succ]
    refine wpAnyH_take (i := 1) (v := ?_) opAt_1 (by kernel_rfl) (by kernel_rfl) (by kernel_rfl) (fun _ _ _ h => h) (Or.inl ⟨by rfl, ?_⟩) hHeld ?_
    rotate_left
    · (intro w' hSw; obtain ⟨k0, k1, k2⟩ := hSw; go_simp; try with_reducible rfl)
    try simp only [Act.put, List.setIfInBounds_toArray, List.set_cons_zero, List.set_cons_succ]
    refine wpAnyH_take (i := 2) (v := ?_) opAt_2 (by kernel_rfl) (by kernel_rfl) (by kernel_rfl) (fun _ _ _ h => h) (Or.inl ⟨by rfl, ?_⟩) hHeld ?_
    rotate_left
    · (intro w' hSw; obtain ⟨k0, k1, k2⟩ := hSw; go_simp; try with_reducible rfl)
    try simp only [Act.put, List.setIfInBounds_toArray, List.set_cons_zero, List.set_cons_succ]
    refine wpAnyH_take (i := 3) (v := ?_) opAt_3 (by kernel_rfl) (by kernel_rfl) (by kernel_rfl) (fun _ _ _ h => h) (Or.inl ⟨by rfl, ?_⟩) hHeld ?_
    rotate_left
    · (intro w' hSw; obtain ⟨k0, k1, k2⟩ := hSw; go_simp; try with_reducible rfl)
    try simp only [Act.put, List.setIfInBounds_toArray, List.set_cons_zero, List.set_cons_succ]
    refine wpAnyH_take (i := 4) (v := ?_) opAt_4 (by kernel_rfl) (by kernel_rfl) (by kernel_rfl) (fun _ _ _ h => h) (Or.inl ⟨by rfl, ?_⟩) hHeld ?_
    rotate_left
    · (intro w' hSw; obtain ⟨k0, k1, k2⟩ := hSw; go_simp; try with_reducible rfl)
    try simp only [Act.put, List.setIfInBounds_toArray, List.set_cons_zero, List.set_cons_succ]
    refine wpAnyH_ready (rs := [5]) (by kernel_rfl) (by simp) ?_
    refine AllReadyH.cons rfl (fun K hK => ?_) AllReadyH.nil
    go_simp
    refine (HS.out _ HaD.out).mono ?_
    rintro e w1 ⟨rfl, hm⟩
    obtain ⟨MX', M', R', h3, h4, h5, h6⟩ := HaD.out.dir_mut hm
    have H3 := Lib.hid h3
    have H4 := Lib.hid h4
    have H5 := Lib.hid h5
    have H6 := Lib.hid h6
    have hk : w1.cell? ⟨p, 0, none⟩ = some (.pointer (some ⟨A, 0, none⟩)) ∧ w1.cell? ⟨c, 0, none⟩ = some (.string nm) ∧ w1.cell? ⟨A, 0, none⟩ = some (.pointer (some ⟨X, 0, none⟩)) := ⟨cell_keep h4 hp hHeld.1, cell_keep h4 hc hHeld.2.1, h3.cells.c0⟩
    clear hm h3 h4 h5 h6
    try go_wp2_with fail
    refine hK.out _ _ hk (fun hHeld => ?_)
    clear hK K
    try simp only [Act.put, List.setIfInBounds_toArray, List.set_cons_zero, List.set_cons_succ]
    refine wpAnyH_take (i := 6) (v := ?_) opAt_6 (by kernel_rfl) (by kernel_rfl) (by kernel_rfl) (fun _ _ _ h => h) (Or.inl ⟨by rfl, ?_⟩) hHeld ?_
    rotate_left
    · (intro w' hSw; obtain ⟨k0, k1, k2⟩ := hSw; go_simp; try with_reducible rfl)
    try simp only [Act.put, List.setIfInBounds_toArray, List.set_cons_zero, List.set_cons_succ]
    refine wpAnyH_take (i := 7) (v := ?_) opAt_7 (by kernel_rfl) (by kernel_rfl) (by kernel_rfl) (fun _ _ _ h => h) (Or.inl ⟨by rfl, ?_⟩) hHeld ?_
    rotate_left
    · (intro w' hSw; obtain ⟨k0, k1, k2⟩ := hSw; go_simp; try with_reducible rfl)
    try simp only [Act.put, List.setIfInBounds_toArray, List.set_cons_zero, List.set_cons_succ]
    refine wpAnyH_take (i := 8) (v := ?_) opAt_8 (by kernel_rfl) (by kernel_rfl) (by kernel_rfl) (fun _ _ _ h => h) (Or.inl ⟨by rfl, ?_⟩) hHeld ?_
    rotate_left
    · (intro w' hSw; obtain ⟨k0, k1, k2⟩ := hSw; go_simp; try with_reducible rfl)
    try simp only [Act.put, List.setIfInBounds_toArray, List.set_cons_zero, List.set_cons_succ]
    refine wpAnyH_take (i := 9) (v := ?_) opAt_9 (by kernel_rfl) (by kernel_rfl) (by kernel_rfl) (fun _ _ _ h => h) (Or.inl ⟨by rfl, ?_⟩) hHeld ?_
    rotate_left
    · (intro w' hSw; obtain ⟨k0, k1, k2⟩ := hSw; go_simp; try with_reducible rfl)
    try simp only [Act.put, List.setIfInBounds_toArray, List.set_cons_zero, List.set_cons_succ]
    refine wpAnyH_take (i := 10) (v := ?_) opAt_10 (by kernel_rfl) (by kernel_rfl) (by kernel_rfl) (fun _ _ _ h => h) (Or.inl ⟨by rfl, ?_⟩) hHeld ?_
    rotate_left
    · (intro w' hSw; obtain ⟨k0, k1, k2⟩ := hSw; go_simp; try with_reducible rfl)
    try simp only [Act.put, List.setIfInBounds_toArray, List.set_cons_zero, List.set_cons_succ]
    refine wpAnyH_done (by kernel_rfl) ?_ _
    refine NoPanic.normal ?_
    go_wp2_with fail
    go_ret
    exact ⟨rfl, M', R', ⟨X, B, n, hv, K, g, MX', MF, H3.out, Hn.out⟩, (Chg.of_below (M := M) HB0.out).trans H4.out (fun i e => .inl e), fun i e => (H5.out i e).imp id (fun e => HSz.out ▸ e), fun i e => (H6.out i e).imp id (fun e => HSz.out ▸ e)⟩
  · have hK1 : createK nm s = (0, { s with dir := s.dir.made nm, file := upd s.file (s.dir.last + 1) (FSt.new []) }) := by unfold createK; rw [hcr]; simp
    rw [hK1]
    rw [hcr] at HS0
    obtain ⟨l1, hl1⟩ : ∃ l1, l1 = s.dir.last + 1 := ⟨_, rfl⟩
    have HS : Hid (∀ w1, FsAt w1 A X B n u hv K g MX MF M R s → Calls Tryz.prog 117 #[.pointer (some ⟨X, 0, none⟩), .string nm] w1 fun e w' => e = .returned (.tuple #[.int .u64 (l1 : Int), .int .i64 0]) ∧ HMut w1 w' X MX R (s.dir.made nm)) := by rw [hl1]; exact HS0.out
    have hl2 : l1 ≤ 201 := by omega
    have Hl1 := Lib.hid hl1
    clear hl1
    clear hcr hK1 HS0
    go_enter Tryz.func116, Tryz.ntmps116
    go_wp2_with fail
    refine wp_region_noPanic ?_
    refine wp_region_held_drew (S := fun w' => w'.cell? ⟨p, 0, none⟩ = some (.pointer (some ⟨A, 0, none⟩)) ∧ w'.cell? ⟨c, 0, none⟩ = some (.string nm) ∧ w'.cell? ⟨A, 0, none⟩ = some (.pointer (some ⟨X, 0, none⟩))) (by kernel_rfl) ⟨cp, cc, hc0⟩ (fun hHeld => ?_)
    clear hc0 cp cc
    generalize World.drew _ = W at *
    refine wpAnyH_take (i := 0) (v := ?_) opAt_0 (by kernel_rfl) (by kernel_rfl) (by kernel_rfl) (fun _ _ _ h => h) (Or.inl ⟨by rfl, ?_⟩) hHeld ?_
    rotate_left
    · (intro w' hSw; obtain ⟨k0, k1, k2⟩ := hSw; go_simp; try with_reducible rfl)
    try simp only [Act.put, List.setIfInBounds_toArray, List.set_cons_zero, List.set_cons_succ]
    refine wpAnyH_take (i := 1) (v := ?_) opAt_1 (by kernel_rfl) (by kernel_rfl) (by kernel_rfl) (fun _ _ _ h => h) (Or.inl ⟨by rfl, ?_⟩) hHeld ?_
    rotate_left
    · (intro w' hSw; obtain ⟨k0, k1, k2⟩ := hSw; go_simp; try with_reducible rfl)
    try simp only [Act.put, List.setIfInBounds_toArray, List.set_cons_zero, List.set_cons_succ]
    refine wpAnyH_take (i := 2) (v := ?_) opAt_2 (by kernel_rfl) (by kernel_rfl) (by kernel_rfl) (fun _ _ _ h => h) (Or.inl ⟨by rfl, ?_⟩) hHeld ?_
    rotate_left
    · (intro w' hSw; obtain ⟨k0, k1, k2⟩ := hSw; go_simp; try with_reducible rfl)
    try simp only [Act.put, List.setIfInBounds_toArray, List.set_cons_zero, List.set_cons_succ]
    refine wpAnyH_take (i := 3) (v := ?_) opAt_3 (by kernel_rfl) (by kernel_rfl) (by kernel_rfl) (fun _ _ _ h => h) (Or.inl ⟨by rfl, ?_⟩) hHeld ?_
    rotate_left
    · (intro w' hSw; obtain ⟨k0, k1, k2⟩ := hSw; go_simp; try with_reducible rfl)
    try simp only [Act.put, List.setIfInBounds_toArray, List.set_cons_zero, List.set_cons_succ]
    refine wpAnyH_take (i := 4) (v := ?_) opAt_4 (by kernel_rfl) (by kernel_rfl) (by kernel_rfl) (fun _ _ _ h => h) (Or.inl ⟨by rfl, ?_⟩) hHeld ?_
    rotate_left
    · (intro w' hSw; obtain ⟨k0, k1, k2⟩ := hSw; go_simp; try with_reducible rfl)
    try simp only [Act.put, List.setIfInBounds_toArray, List.set_cons_zero, List.set_cons_succ]
    refine wpAnyH_ready (rs := [5]) (by kernel_rfl) (by simp) ?_
    refine AllReadyH.cons rfl (fun K hK => ?_) AllReadyH.nil
    go_simp
    refine (HS.out _ HaD.out).mono ?_
    rintro e w1 ⟨rfl, hm⟩
    obtain ⟨MX', M', R', h3, h4, h5, h6⟩ := HaD.out.dir_mut hm
    have H3 := Lib.hid h3
    have H4 := Lib.hid h4
    have H5 := Lib.hid h5
    have H6 := Lib.hid h6
    have hk : w1.cell? ⟨p, 0, none⟩ = some (.pointer (some ⟨A, 0, none⟩)) ∧ w1.cell? ⟨c, 0, none⟩ = some (.string nm) ∧ w1.cell? ⟨A, 0, none⟩ = some (.pointer (some ⟨X, 0, none⟩)) := ⟨cell_keep h4 hp hHeld.1, cell_keep h4 hc hHeld.2.1, h3.cells.c0⟩
    clear hm h3 h4 h5 h6
    try go_wp2_with fail
    refine hK.out _ _ hk (fun hHeld => ?_)
    clear hK K
    try simp only [Act.put, List.setIfInBounds_toArray, List.set_cons_zero, List.set_cons_succ]
    refine wpAnyH_take (i := 6) (v := ?_) opAt_6 (by kernel_rfl) (by kernel_rfl) (by kernel_rfl) (fun _ _ _ h => h) (Or.inl ⟨by rfl, ?_⟩) hHeld ?_
    rotate_left
    · (intro w' hSw; obtain ⟨k0, k1, k2⟩ := hSw; go_simp; try with_reducible rfl)
    try simp only [Act.put, List.setIfInBounds_toArray, List.set_cons_zero, List.set_cons_succ]
    refine wpAnyH_take (i := 7) (v := ?_) opAt_7 (by kernel_rfl) (by kernel_rfl) (by kernel_rfl) (fun _ _ _ h => h) (Or.inl ⟨by rfl, ?_⟩) hHeld ?_
    rotate_left
    · (intro w' hSw; obtain ⟨k0, k1, k2⟩ := hSw; go_simp; try with_reducible rfl)
    try simp only [Act.put, List.setIfInBounds_toArray, List.set_cons_zero, List.set_cons_succ]
    refine wpAnyH_take (i := 8) (v := ?_) opAt_8 (by kernel_rfl) (by kernel_rfl) (by kernel_rfl) (fun _ _ _ h => h) (Or.inl ⟨by rfl, ?_⟩) hHeld ?_
    rotate_left
    · (intro w' hSw; obtain ⟨k0, k1, k2⟩ := hSw; go_simp; try with_reducible rfl)
    try simp only [Act.put, List.setIfInBounds_toArray, List.set_cons_zero, List.set_cons_succ]
    refine wpAnyH_take (i := 9) (v := ?_) opAt_9 (by kernel_rfl) (by kernel_rfl) (by kernel_rfl) (fun _ _ _ h => h) (Or.inl ⟨by rfl, ?_⟩) hHeld ?_
    rotate_left
    · (intro w' hSw; obtain ⟨k0, k1, k2⟩ := hSw; go_simp; try with_reducible rfl)
    try simp only [Act.put, List.setIfInBounds_toArray, List.set_cons_zero, List.set_cons_succ]
    refine wpAnyH_take (i := 10) (v := ?_) opAt_10 (by kernel_rfl) (by kernel_rfl) (by kernel_rfl) (fun _ _ _ h => h) (Or.inl ⟨by rfl, ?_⟩) hHeld ?_
    rotate_left
    · (intro w' hSw; obtain ⟨k0, k1, k2⟩ := hSw; go_simp; try with_reducible rfl)
    try simp only [Act.put, List.setIfInBounds_toArray, List.set_cons_zero, List.set_cons_succ]
    refine wpAnyH_done (by kernel_rfl) ?_ _
    refine NoPanic.normal ?_
    go_wp2_with fail
    have HD3 := Lib.hid H3.out.drew
    have hAc := H3.out.cells.c1
    have hAB := H3.out.ab
    have hkk := hHeld.1
    refine wp_region_noPanic ?_
    refine wp_region_held_drew (S := fun w' => w'.cell? ⟨p, 0, none⟩ = some (.pointer (some ⟨A, 0, none⟩)) ∧ w'.cell? ⟨A, 1, none⟩ = some (.map (some B))) (by kernel_rfl) ⟨hkk, hAc⟩ (fun hHeld => ?_)
    clear hAc hkk
    have HS3 : Hid (w1.drew.heap.size = w1.heap.size) := rfl
    have HG3 : Hid (Chg M w w1.drew) := ((Chg.of_below (M := M) HB0.out).trans H4.out (fun i e => .inl e)).drew
    generalize World.drew _ = W3 at *
    refine wpAnyH_take (i := 0) (v := ?_) opAt_0 (by kernel_rfl) (by kernel_rfl) (by kernel_rfl) (fun _ _ _ h => h) (Or.inl ⟨by rfl, ?_⟩) hHeld ?_
    rotate_left
    · (intro w' hSw; obtain ⟨k0, k1⟩ := hSw; go_simp; try with_reducible rfl)
    try simp only [Act.put, List.setIfInBounds_toArray, List.set_cons_zero, List.set_cons_succ]
    refine wpAnyH_take (i := 1) (v := ?_) opAt_1 (by kernel_rfl) (by kernel_rfl) (by kernel_rfl) (fun _ _ _ h => h) (Or.inl ⟨by rfl, ?_⟩) hHeld ?_
    rotate_left
    · (intro w' hSw; obtain ⟨k0, k1⟩ := hSw; go_simp; try with_reducible rfl)
    try simp only [Act.put, List.setIfInBounds_toArray, List.set_cons_zero, List.set_cons_succ]
    refine wpAnyH_take (i := 2) (v := ?_) opAt_2 (by kernel_rfl) (by kernel_rfl) (by kernel_rfl) (fun _ _ _ h => h) (Or.inl ⟨by rfl, ?_⟩) hHeld ?_
    rotate_left
    · (intro w' hSw; obtain ⟨k0, k1⟩ := hSw; go_simp; try with_reducible rfl)
    try simp only [Act.put, List.setIfInBounds_toArray, List.set_cons_zero, List.set_cons_succ]
    refine wpAnyH_take (i := 3) (v := ?_) opAt_3 (by kernel_rfl) (by kernel_rfl) (by kernel_rfl) (fun _ _ _ h => h) (Or.inl ⟨by rfl, ?_⟩) hHeld ?_
    rotate_left
    · (intro w' hSw; obtain ⟨k0, k1⟩ := hSw; go_simp; try with_reducible rfl)
    try simp only [Act.put, List.setIfInBounds_toArray, List.set_cons_zero, List.set_cons_succ]
    refine wpAnyH_take (i := 4) (v := ?_) opAt_4 (by kernel_rfl) (by kernel_rfl) (by kernel_rfl) (fun _ _ _ h => h) (Or.inl ⟨by rfl, ?_⟩) hHeld ?_
    rotate_left
    · (intro w' hSw; obtain ⟨k0, k1⟩ := hSw; go_simp; try with_reducible rfl)
    try simp only [Act.put, List.setIfInBounds_toArray, List.set_cons_zero, List.set_cons_succ]
    refine wpAnyH_ready (rs := [5]) (by kernel_rfl) (by simp) ?_
    refine AllReadyH.cons rfl (fun K hK => ?_) AllReadyH.nil
    go_simp
    refine (fnew_b (B := 0) Bs.none_ (Nat.zero_le _) (by simp)).mono ?_
    rintro e w4 ⟨F, M1, rfl, hfm, hb4, hM1⟩
    have HB4 := Lib.hid hb4
    have HFm := Lib.hid hfm
    have HM1 := Lib.hid hM1
    have hk4 : w4.cell? ⟨p, 0, none⟩ = some (.pointer (some ⟨A, 0, none⟩)) ∧ w4.cell? ⟨A, 1, none⟩ = some (.map (some B)) := ⟨(hb4.cell (p := ⟨p, 0, none⟩) (fblock_of_cell hHeld.1)).trans hHeld.1, (hb4.cell (p := ⟨A, 1, none⟩) (fblock_of_cell hHeld.2)).trans hHeld.2⟩
    obtain ⟨w5, hrun, hmu5, ht5⟩ := (HD3.out.map.on HB4.out).store (by omega) (show l1 < 1000000000 by omega) F
    have hc5 := Chg.of_turned ht5
    have HC5 := Lib.hid hc5
    have HMU := Lib.hid hmu5
    have hAB := H3.out.ab
    have hk5 : w5.cell? ⟨p, 0, none⟩ = some (.pointer (some ⟨A, 0, none⟩)) ∧ w5.cell? ⟨A, 1, none⟩ = some (.map (some B)) := ⟨cell_keep hc5 (fun e => hp (by rw [show p = B from e]; exact Ha.out.mB)) hk4.1, cell_keep hc5 hAB hk4.2⟩
    clear hb4 hfm hM1 hmu5 ht5 hc5
    try go_wp2_with fail
    refine hK.out _ _ hk4 (fun hHeld => ?_)
    clear hK K
    try simp only [Act.put, List.setIfInBounds_toArray, List.set_cons_zero, List.set_cons_succ]
    refine wpAnyH_ready (rs := [6]) (by kernel_rfl) (by simp) ?_
    refine AllReadyH.cons rfl (fun K hK => ?_) AllReadyH.nil
    go_simp
    refine hK.out _ _ hk5 (fun hHeld => ?_)
    clear hK K
    try simp only [Act.put, List.setIfInBounds_toArray, List.set_cons_zero, List.set_cons_succ]
    refine wpAnyH_done (by kernel_rfl) ?_ _
    refine NoPanic.normal ?_
    go_wp2_with fail
    go_ret
    have h9 := HD3.out.add HB4.out HFm.out (fun _ e => e.elim) HM1.out HMU.out HC5.out (show l1 < 1000000000 by omega)
    have h10 : FsAt w5 A X B (n + 1) u hv (l1 :: K) (updN g l1 F) MX' (fun k => if k = l1 then M1 else MF k) (fun j => M' j ∨ M1 j) R' { s with dir := s.dir.made nm, file := upd s.file (s.dir.last + 1) (FSt.new []) } := by rw [← Hl1.out]; exact h9
    refine ⟨rfl, _, R', ⟨X, B, n + 1, hv, l1 :: K, updN g l1 F, MX', _, h10, ?_, ?_, ?_⟩, (HG3.out.trans (Chg.of_below (M := fun _ => False) HB4.out) (fun i e => e.elim)).trans HC5.out (fun i e => .inl (e ▸ Ha.out.mB)), ?_, fun i e => (H6.out i e).imp id (fun e => HSz.out ▸ e)⟩
    · show n + 1 ≤ s.dir.last + 1 + 1
      omega
    · intro i hi
      show i ≤ s.dir.last + 1
      have := Hl1.out
      rcases List.mem_cons.1 hi with rfl | hi
      · omega
      · have := Hn.out.2.1 i hi; omega
    · intro i hi
      rcases live_made Hset.out nm i hi with h8 | h8
      · exact List.mem_cons_of_mem _ (Hn.out.2.2 i h8)
      · exact List.mem_cons.2 (.inl (h8.trans Hl1.out.symm))
    · rintro i (e | e)
      · exact (H5.out i e).imp id (fun e => HSz.out ▸ e)
      · have h7 := HM1.out i e
        have := HG3.out.size
        exact .inr (by omega)
end
end Go.Proofs.YtaicibmaogiibaaGreatDoor

/-
  Layer 7: a step of the file of a name.
-/
set_option linter.unusedVariables false
set_option linter.unusedSimpArgs false
namespace Go.Proofs.YtaicibmaogiibaaGreatDoor
open Go.RowKit Go.Maps

section
variable {w w' : World} {A u q T p c r : Nat} {M R N : Nat → Prop} {s : FsP} {nm : ByteArray} {dg : Nat} {dcap : Array Value} {k : FSt → Nat × FSt}
theorem FsM.file_mut {X B n i : Nat} {hv : Value} {K : List Nat} {g : Nat → Nat} {MX : Nat → Prop} {MF : Nat → Nat → Prop} (h : FsAt w A X B n u hv K g MX MF M R s) (hn : n ≤ s.dir.last + 1 ∧ (∀ i, i ∈ K → i ≤ s.dir.last) ∧ (∀ i, i ∈ s.dir.live → i ∈ K)) (hi : i ∈ K) {t : FSt} (hm : Mut w w' (g i) (MF i) R t) :
    FsMut w w' A u M R { s with file := upd s.file i t } := by
  obtain ⟨MF', M', R', h3, h4, h5, h6⟩ := h.file_mut hi hm
  exact ⟨M', R', ⟨X, B, n, hv, K, g, MX, MF', h3, hn⟩, h4, h5, h6⟩
theorem nodeF_ne_cases (h : (nodeF s nm).1 ≠ 0) : onF s nm k = ((nodeF s nm).1, s) := by unfold onF; rw [if_neg h]
set_option maxRecDepth 100000 in
set_option maxHeartbeats 4000000 in
theorem kstepof1 (hnm : nm.size ≤ maxLen) (h : FsM w A u M R s) (hf : FInv s q T) (ho : s.off = false) (hp : ¬ M p) (cp : w.cell? ⟨p, 0, none⟩ = some (.pointer (some ⟨A, 0, none⟩))) (hc : ¬ M c) (cc : w.cell? ⟨c, 0, none⟩ = some (.string nm)) (cr : w.cell? ⟨r, 0, none⟩ = some (.func (.func dg) #[] dcap))
    (hen : ∀ args w', (callFunc dg args).run Tryz.prog w' = .ok (.enter dg args) w')
    (hdo : ∀ w1, Below w.heap.size w w1 → ∀ X B n hv K g MX MF i, FsAt w1 A X B n u hv K g MX MF M R s → i ∈ K → i ≤ s.dir.last → Calls Tryz.prog dg (#[.pointer (some ⟨g i, 0, none⟩)] ++ dcap) w1 fun e w' => e = .returned (.int .i64 ((k (s.file i)).1 : Int)) ∧ Mut w1 w' (g i) (MF i) R (k (s.file i)).2) :
    Calls Tryz.prog 105 #[.pointer (some ⟨p, 0, none⟩), .pointer (some ⟨c, 0, none⟩), .pointer (some ⟨r, 0, none⟩)] w fun e w' => e = .returned (.int .i64 ((onF s nm k).1 : Int)) ∧ FsMut w w' A u M R (onF s nm k).2 := by
  obtain ⟨X, B, n, hv, K, g, MX, MF, ha, hn1, hn2, hn3, hn4, _⟩ := h.kfacts hf
  have HF := Lib.hid (kfind ha hn4 ho hnm)
  have Ha := Lib.hid ha
  have Hn := Lib.hid (show n ≤ s.dir.last + 1 ∧ (∀ i, i ∈ K → i ≤ s.dir.last) ∧ (∀ i, i ∈ s.dir.live → i ∈ K) from ⟨hn1, hn2, hn3⟩)
  have HD := Lib.hid hdo
  have Hn4 := Lib.hid hn4
  have HM := Lib.hid h
  clear ha h hf hn1 hn2 hn3 hn4 hdo ho
  by_cases h0 : (nodeF s nm).1 = 0
  · have hK : onF s nm k = ((k (s.file (nodeF s nm).2)).1, { s with file := upd s.file (nodeF s nm).2 (k (s.file (nodeF s nm).2)).2 }) := by unfold onF; rw [if_pos h0]
    have hfin : findL s.dir.now nm = some (nodeF s nm).2 := by
      unfold nodeF at h0 ⊢
      split
      · rename_i h1; rw [if_pos h1] at h0; cases h0
      · rename_i h1
        rw [if_neg h1] at h0
        cases hf2 : findL s.dir.now nm with
        | none => rw [hf2] at h0; cases h0
        | some m => rfl
    rw [hK]
    rw [h0] at HF
    simp only [if_true] at HF
    generalize (nodeF s nm).2 = i at *
    have hiK : i ∈ K := Hn4.out _ (findL_mem hfin)
    have HD1 : Hid (∀ w1, Below w.heap.size w w1 → Calls Tryz.prog dg (#[.pointer (some ⟨g i, 0, none⟩)] ++ dcap) w1 fun e w' => e = .returned (.int .i64 ((k (s.file i)).1 : Int)) ∧ Mut w1 w' (g i) (MF i) R (k (s.file i)).2) := fun w1 hb => HD.out w1 hb X B n hv K g MX MF i (Ha.out.on hb) hiK (Hn.out.2.1 i hiK)
    obtain ⟨kk, hkk⟩ : ∃ kk, kk = k (s.file i) := ⟨_, rfl⟩
    rw [← hkk] at HD1 ⊢
    obtain ⟨Fi, hFi⟩ : ∃ Fi, Fi = g i := ⟨_, rfl⟩
    rw [← hFi] at HD1 HF
    have HFi := Lib.hid hFi
    clear hK h0 HD hkk hFi hfin
    go_enter Tryz.func105, Tryz.ntmps105
    go_wp2_with fail
    refine HF.out.mono ?_
    rintro e w1 ⟨rfl, hb1⟩
    have cr1 := (hb1.cell (p := ⟨r, 0, none⟩) (fblock_of_cell cr)).trans cr
    have HB1 := Lib.hid hb1
    have Ha1 := Lib.hid (Ha.out.on hb1)
    clear hb1 cr cp cc
    go_wp2_with fail
    refine (HD1.out w1 HB1.out).mono ?_
    rintro e w2 ⟨rfl, hm⟩
    have HM2 : Hid (FsMut w w2 A u M R { s with file := upd s.file i kk.2 }) := (FsM.file_mut Ha1.out Hn.out hiK (HFi.out ▸ hm)).after (Chg.of_below HB1.out) (fun _ => .inl) (fun _ => .inl)
    clear hm cr1
    go_wp2_with fail
    go_ret
    exact ⟨rfl, HM2.out⟩
  · rw [nodeF_ne_cases h0]
    rw [if_neg h0] at HF
    generalize (nodeF s nm).1 = cd at *
    have hcd2 : decide ((cd : Int) = 0) = false := decide_eq_false (by omega)
    go_enter Tryz.func105, Tryz.ntmps105
    go_wp2_with fail
    refine HF.out.mono ?_
    rintro e w1 ⟨rfl, hb1⟩
    have HB1 := Lib.hid hb1
    clear hb1 cr cp cc
    go_wp2_with fail
    go_ret
    exact ⟨rfl, FsMut.of_below HM.out HB1.out⟩
theorem beginF_on (h : (beginF s).1 = 0) : (beginF s).2.off = false := by
  unfold beginF at h ⊢
  split
  · rename_i h1; rw [if_pos h1] at h; cases h
  · rename_i h1
    rw [if_neg h1] at h
    split
    · rename_i h2; rw [if_pos h2] at h; cases h
    · simpa using h1
theorem beginF_used (s : FsP) : (beginF s).2.used = s.used := by unfold FsP.used; rw [(beginF_is s).1, (beginF_is s).2.1]
theorem box_new (w : World) (v : Value) (t : TypeId) (n : Nat) (hn : n = w.heap.size) : (w.alloc (.cells #[v] t)).cell? ⟨n, 0, none⟩ = some v := by subst hn; simp
theorem cell_al {w : World} {b o : Nat} {v : Value} (h : w.cell? ⟨b, o, none⟩ = some v) (ob : Obj) : (w.alloc ob).cell? ⟨b, o, none⟩ = some v := (World.cell?_alloc_lt w ob _ (fblock_of_cell h)).trans h
theorem ssR_one {W : World} {b : Nat} {nm : ByteArray} (h : W.cell? ⟨b, 0, none⟩ = some (.string nm)) : SsR W (fun i => i = b) (.slice (some ⟨b, 0, none⟩) 1 1) [nm] :=
  ⟨_, 1, rfl, Nat.le_refl _, by unfold maxLen; omega, fun _ => ⟨b, 0, rfl, rfl, fun j u hu => by
    rcases j with _ | j
    · simp [svs] at hu; subst hu; simpa using h
    · simp [svs] at hu⟩⟩
set_option maxRecDepth 100000 in
set_option maxHeartbeats 4000000 in
theorem kstepOf (hnm : nm.size ≤ maxLen) (h : FsM w A s.used M R s) (hf : FInv s q T) (hT : T ≤ 100000) (hst : s.steps + 1 ≤ 1000000)
    (hen : ∀ args w', (callFunc dg args).run Tryz.prog w' = .ok (.enter dg args) w') (hk : ∀ t : FSt, t.Ok → (k t).2.Ok ∧ (k t).2.big ≤ t.big + 1200)
    (hdo : (beginF s).1 = 0 → ∀ w1, Chg (fun i => i = A) w w1 → ∀ X B n hv K g MX MF i, FsAt w1 A X B n s.used hv K g MX MF M R (beginF s).2 → i ∈ K → (s.file i).big ≤ T → Calls Tryz.prog dg (#[.pointer (some ⟨g i, 0, none⟩)] ++ dcap) w1 fun e w' => e = .returned (.int .i64 ((k (s.file i)).1 : Int)) ∧ Mut w1 w' (g i) (MF i) R (k (s.file i)).2) :
    Calls Tryz.prog 59 #[.pointer (some ⟨A, 0, none⟩), .string nm, .func (.func dg) #[] dcap] w fun e w' => e = .returned (.int .i64 ((stepF s fun s => onF s nm k).1 : Int)) ∧ FsMut w w' A (stepF s fun s => onF s nm k).2.used M R (stepF s fun s => onF s nm k).2 := by
  obtain ⟨W, hW⟩ : ∃ W, W = ((((w.alloc (.cells #[.pointer (some ⟨A, 0, none⟩)] 26)).alloc (.cells #[.string nm] 9)).alloc (.cells #[.func (.func dg) #[] dcap] 107)).alloc (.cells #[.string nm] 9)) := ⟨_, rfl⟩
  have hb : Below w.heap.size w W := by rw [hW]; exact ((((Below.refl _ _).alloc (Nat.le_refl _) _).alloc (by simp) _).alloc (by simp; omega) _).alloc (by simp; omega) _
  have c0 : W.cell? ⟨w.heap.size, 0, none⟩ = some (.pointer (some ⟨A, 0, none⟩)) := by rw [hW]; exact cell_al (cell_al (cell_al (box_new _ _ _ _ rfl) _) _) _
  have c1 : W.cell? ⟨w.heap.size + 1, 0, none⟩ = some (.string nm) := by rw [hW]; exact cell_al (cell_al (box_new _ _ _ _ (by simp)) _) _
  have c2 : W.cell? ⟨w.heap.size + 1 + 1, 0, none⟩ = some (.func (.func dg) #[] dcap) := by rw [hW]; exact cell_al (box_new _ _ _ _ (by simp)) _
  have c3 : W.cell? ⟨w.heap.size + 1 + 1 + 1, 0, none⟩ = some (.string nm) := by rw [hW]; exact box_new _ _ _ _ (by simp)
  have hlA := h.ltA
  have hbi := beginF_is s
  have hon1 : (beginF s).1 = 0 → _ := beginF_on (s := s)
  have hf1 : FInv (beginF s).2 q T := hf.same hbi.1 hbi.2.1
  have Hstep := Lib.hid (kstep (k := fun s => onF s nm k) (dcap := #[.pointer (some ⟨w.heap.size, 0, none⟩), .pointer (some ⟨w.heap.size + 1, 0, none⟩), .pointer (some ⟨w.heap.size + 1 + 1, 0, none⟩)]) (h.on hb) hf hT hst (ssR_one c3) (fun i hi e => by have := h.ml i hi; omega) (fun x hx => by simp at hx; subst hx; exact hnm) (by simp)
    (fun args w' => enters_of Tryz.func105 (by kernel_rfl) rfl args w')
    (fun hb0 w1 hm1 hg1 => by
      have hne : ∀ x, w.heap.size ≤ x → ¬ (x = A) := fun x hx e => by omega
      refine kstepof1 (k := k) hnm hm1 hf1 (hon1 hb0) (p := w.heap.size) (c := w.heap.size + 1) (r := w.heap.size + 1 + 1) (fun e => by have := h.ml _ e; omega) (cell_keep hg1 (hne _ (by omega)) c0) (fun e => by have := h.ml _ e; omega) (cell_keep hg1 (hne _ (by omega)) c1) (cell_keep hg1 (hne _ (by omega)) c2) hen ?_
      intro w2 hb2 X B n hv K g MX MF i ha hi hle
      rw [hbi.2.1]
      exact hdo hb0 w2 (((Chg.of_below (M := fun i => i = A) hb).trans hg1 (fun i e => .inl e)).trans (Chg.of_below (M := fun _ => False) hb2) (fun i e => e.elim)) X B n hv K g MX MF i ha hi (by rw [← hbi.2.1]; exact hf1.big_le hle))
    (fun hb0 => ⟨q, hf1.onF_ nm 1200 hk⟩)
    (fun hb0 => by have h1 := used_on hf1 nm k; rw [beginF_used, hbi.1, hbi.2.1] at h1; exact h1))
  have HB := Lib.hid hb
  clear h hf hdo hk c0 c1 c2 c3 hb hf1 hon1 hbi
  go_enter Tryz.func59, Tryz.ntmps59
  go_wp2_with fail
  rw [← hW]
  refine Hstep.out.mono ?_
  rintro e w' ⟨rfl, hm⟩
  have HM := Lib.hid (hm.after (Chg.of_below HB.out) (fun _ => .inl) (fun _ => .inl))
  clear hm
  go_wp2_with fail
  go_ret
  exact ⟨rfl, HM.out⟩
end
end Go.Proofs.YtaicibmaogiibaaGreatDoor

