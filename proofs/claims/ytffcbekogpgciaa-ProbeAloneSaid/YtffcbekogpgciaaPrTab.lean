
/-
  Layer 14 (probe): a table as a whole: New, Get, Len, Set, Remove.
-/
import Derived.Test.YtffcbekogpgciaaPrFit
import Derived.Test.YtffcbekogpgciaaPrTake
import Derived.Test.YtffcbekogpgciaaFxBase
set_option linter.unusedVariables false
set_option linter.unusedSimpArgs false
namespace Go.Proofs.Ytffcbekogpgciaa.Pr
open Go Go.RowKit

/-- a table: its seed, its slots -/
structure PT where
  seed : Nat
  sl : List (Option E)
def hm (seed n : Nat) (k : List UInt8) : Nat := Ky.hash seed k % n
abbrev PT.prs (s : PT) : List (List UInt8 × Nat) := kn s.sl
structure PT.Ok (s : PT) : Prop where
  seed : s.seed < 18446744073709551616
  lay : Lay (fun k => Ky.hash s.seed k % s.sl.length) s.sl
  len : s.sl.length = room s.prs.length
  once : (s.prs.map (·.1)).Nodup
  keys : ∀ p ∈ s.prs, 0 < p.1.length ∧ p.1.length ≤ 64
  nums : ∀ p ∈ s.prs, p.2 < 18446744073709551616
  few : s.prs.length < 1000000
theorem PT.Ok.emp {s : PT} (h : s.Ok) : Emp s.sl := emp_of (by rw [h.len]; exact room_more _)
theorem PT.Ok.l8 {s : PT} (h : s.Ok) : 8 ≤ s.sl.length := by rw [h.len]; exact room_ge _
theorem PT.Ok.l9 {s : PT} (h : s.Ok) : s.sl.length < 4000000 := by have := h.few; have := room_le s.prs.length; rw [h.len]; omega
theorem PT.Ok.once' {s : PT} (h : s.Ok) : Once s.sl := once_of (hd := h.once)
/-- told by what is in it -/
theorem PT.Ok.same {s t : PT} (h : s.Ok) (k : t.Ok) (hs : s.seed = t.seed) (hp : List.Perm s.prs t.prs) : s = t := by
  have hl : s.sl.length = t.sl.length := by rw [h.len, k.len, hp.length_eq]
  obtain ⟨a, b⟩ := s
  obtain ⟨c, d⟩ := t
  simp only at hs hl
  subst hs
  have hlay := h.lay
  simp only at hlay
  rw [hl] at hlay
  have := Lay.unique hlay k.lay hl h.emp k.emp h.once hp
  simp only at this
  rw [this]
/-- in what is told there is a pair -/
theorem mem_of_at {sl : List (Option E)} {i : Nat} {e : E} (h : at_ sl i = some e) : (e.key, e.n) ∈ kn sl := Carry.mem h
def remA (A : List (List UInt8 × Nat)) (k : List UInt8) : List (List UInt8 × Nat) := A.filter fun p => decide (p.1 ≠ k)
theorem remA_perm {A B : List (List UInt8 × Nat)} (h : List.Perm A B) (k : List UInt8) : List.Perm (remA A k) (remA B k) := h.filter _
theorem remA_none {A : List (List UInt8 × Nat)} {k : List UInt8} (h : ∀ p ∈ A, p.1 ≠ k) : remA A k = A := List.filter_eq_self.2 (fun p hp => by simpa using h p hp)
theorem remA_mem {A : List (List UInt8 × Nat)} {k : List UInt8} {p : List UInt8 × Nat} : p ∈ remA A k ↔ p ∈ A ∧ p.1 ≠ k := by simp [remA, List.mem_filter]
theorem once_mem {A : List (List UInt8 × Nat)} (hd : (A.map (·.1)).Nodup) {k : List UInt8} {a b : Nat} (ha : (k, a) ∈ A) (hb : (k, b) ∈ A) : a = b := by
  induction A with
  | nil => simp at ha
  | cons p r ih =>
    rw [List.map_cons, List.nodup_cons] at hd
    rcases List.mem_cons.1 ha with e1 | h1
    · rcases List.mem_cons.1 hb with e2 | h2
      · rw [← e1] at e2; simpa using e2.symm
      · exact absurd (List.mem_map.2 ⟨_, h2, by rw [← e1]⟩) hd.1
    · rcases List.mem_cons.1 hb with e2 | h2
      · exact absurd (List.mem_map.2 ⟨_, h1, by rw [← e2]⟩) hd.1
      · exact ih hd.2 h1 h2
theorem remA_split {A : List (List UInt8 × Nat)} (hd : (A.map (·.1)).Nodup) {k : List UInt8} {v : Nat} (h : (k, v) ∈ A) : List.Perm A ((k, v) :: remA A k) := by
  induction A with
  | nil => simp at h
  | cons p r ih =>
    rw [List.map_cons, List.nodup_cons] at hd
    rcases List.mem_cons.1 h with e | hr
    · subst e
      have : remA ((k, v) :: r) k = r := by
        unfold remA
        rw [List.filter_cons_of_neg (by simp)]
        exact List.filter_eq_self.2 (fun q hq => by
          have : q.1 ≠ k := fun c => hd.1 (List.mem_map.2 ⟨q, hq, c⟩)
          simpa using this)
      rw [this]
    · have hne : p.1 ≠ k := fun c => hd.1 (List.mem_map.2 ⟨_, hr, c.symm⟩)
      have : remA (p :: r) k = p :: remA r k := by
        unfold remA
        rw [List.filter_cons_of_pos (by simpa using hne)]
      rw [this]
      exact ((ih hd.2 hr).cons p).trans (List.Perm.swap _ _ _)
theorem remA_nodup {A : List (List UInt8 × Nat)} (hd : (A.map (·.1)).Nodup) (k : List UInt8) (v : Nat) : (((k, v) :: remA A k).map (·.1)).Nodup := by
  rw [List.map_cons, List.nodup_cons]
  refine ⟨fun h => ?_, ?_⟩
  · obtain ⟨p, hp, e⟩ := List.mem_map.1 h
    exact (remA_mem.1 hp).2 e
  · exact List.Pairwise.sublist (List.Sublist.map _ List.filter_sublist) hd
theorem remA_nodup' {A : List (List UInt8 × Nat)} (hd : (A.map (·.1)).Nodup) (k : List UInt8) : ((remA A k).map (·.1)).Nodup := (List.nodup_cons.1 (remA_nodup hd k 0)).2
theorem remA_len {A : List (List UInt8 × Nat)} (k : List UInt8) : (remA A k).length ≤ A.length := List.length_filter_le _ _

/-- a table in memory: M its own blocks, R the blocks of its keys, which nobody writes -/
def TabM (w : World) (T : Nat) (M R : Nat → Prop) (s : PT) : Prop :=
  s.Ok ∧ (∀ i, M i → ¬ R i) ∧ (∀ i, M i → i < w.heap.size) ∧ (∀ i, R i → i < w.heap.size) ∧ ∃ S c, TabAt w T S c R s.seed s.prs.length s.sl ∧ M T ∧ M S
section
variable {w w' : World} {T : Nat} {M R N : Nat → Prop} {s : PT}
theorem TabM.ok (h : TabM w T M R s) : s.Ok := h.1
theorem TabM.chg (h : TabM w T M R s) (hc : Chg N w w') (hN : ∀ i, N i → ¬ M i ∧ ¬ R i) : TabM w' T M R s := by
  obtain ⟨ho, h1, h2, h3, S, c, h4, h5, h6⟩ := h
  exact ⟨ho, h1, fun i hi => Nat.lt_of_lt_of_le (h2 i hi) hc.size, fun i hi => Nat.lt_of_lt_of_le (h3 i hi) hc.size, S, c, h4.chg hc (fun i hi => (hN i hi).2) (fun e => (hN T e).1 h5) (fun e => (hN S e).1 h6), h5, h6⟩
theorem TabM.on (h : TabM w T M R s) (hb : Below w.heap.size w w') : TabM w' T M R s := h.chg (Chg.of_below (M := fun _ => False) hb) (fun _ e => e.elim)
end
/-- what a call leaves that changes the table -/
def PMut (w w' : World) (T : Nat) (M R : Nat → Prop) (s : PT) : Prop :=
  ∃ M' R', TabM w' T M' R' s ∧ Chg M w w' ∧ (∀ i, M' i → M i ∨ w.heap.size ≤ i) ∧ (∀ i, R' i → R i ∨ w.heap.size ≤ i)
theorem TabAt.mono {w : World} {T S c : Nat} {R R' : Nat → Prop} {seed keys : Nat} {sl : List (Option E)} (h : TabAt w T S c R seed keys sl) (hR : ∀ i, R i → R' i) (hT : ¬ R' T) (hS : ¬ R' S) : TabAt w T S c R' seed keys sl := by
  obtain ⟨h0, ⟨⟨arr, k0, k1, k2⟩, k3, k4, _⟩, h2, _⟩ := h
  exact ⟨h0, ⟨⟨arr, k0, k1, fun i o ho => (k2 i o ho).mono hR⟩, k3, k4, hS⟩, h2, hT⟩

theorem TCells.new (w : World) (S c seed n keys : Nat) : TCells (w.alloc (.cells #[.int .u64 (seed : Int), .slice (some ⟨S, 0, none⟩) n c, .int .i64 (keys : Int)] 64)) w.heap.size S c seed n keys :=
  ⟨by simp, by simp, by simp, by simp, by simp, by simp⟩
def PT.new (seed : Nat) : PT := ⟨seed, List.replicate 8 none⟩
theorem PT.new_ok {seed : Nat} (hs : seed < 18446744073709551616) : (PT.new seed).Ok := by
  have e : (PT.new seed).prs = [] := kn_none 8
  refine ⟨hs, lay_none _ _, ?_, ?_, ?_, ?_, ?_⟩
  · rw [e]; simp [PT.new, room, roomS]
  · rw [e]; simp
  · rw [e]; simp
  · rw [e]; simp
  · rw [e]; simp
theorem new_b (seed : Nat) (w : World) (hs : seed < 18446744073709551616) :
    Calls Try.prog 8 #[.int .u64 (seed : Int)] w fun e w' => ∃ T, e = .returned (.pointer (some ⟨T, 0, none⟩)) ∧ TabM w' T (fun i => w.heap.size ≤ i ∧ i < w'.heap.size) (fun _ => False) (PT.new seed) ∧ Below w.heap.size w w' := by
  obtain ⟨Z, hZ⟩ : ∃ Z, zslots 8 = Z := ⟨_, rfl⟩
  have hmk : ∀ V : World, (Instr.makeSlice 41 (.int .i64 8) (.int .i64 8)).run Try.prog V = .ok (.slice (some ⟨V.heap.size, 0, none⟩) 8 8) (V.alloc (.cells Z 49)) := by rw [← hZ]; exact run_make_slots 8 (by omega)
  have HZ := Lib.hid hZ
  clear hZ
  go_enter Try.func8, Try.ntmps8
  go_wp2
  go_ret
  have hb1 : Below w.heap.size w (w.alloc (.cells Z 49)) := (Below.refl _ _).alloc (Nat.le_refl _) _
  have hsl : SlotsAt (w.alloc (.cells Z 49)) w.heap.size 8 (fun _ => False) (List.replicate 8 none) :=
    slots_new (by unfold maxLen; omega) (fun i hi => hi.elim) _ (by rw [← HZ.out]; unfold zslots; rw [size_madeCells]) (fun i hi => by rw [← HZ.out]; exact zslots_at 8 i hi)
  have hsz : (w.alloc (.cells Z 49)).heap.size = w.heap.size + 1 := by simp
  generalize w.alloc (.cells Z 49) = w1 at *
  have hb2 : Below w1.heap.size w1 (w1.alloc (.cells #[.int .u64 (seed : Int), .slice (some ⟨w.heap.size, 0, none⟩) 8 8, .int .i64 0] 64)) := (Below.refl _ _).alloc (Nat.le_refl _) _
  have e : (PT.new seed).prs = [] := kn_none 8
  have hlt := hsl.lt
  have ht := TCells.new w1 w.heap.size 8 seed 8 0
  refine ⟨w.heap.size + 1, rfl, ⟨PT.new_ok hs, fun _ _ c => c, fun i hi => hi.2, fun i hi => hi.elim, w.heap.size, 8, ⟨?_, hsl.on hb2, by omega, fun c => c⟩, by simp; omega, by simp; omega⟩, hb1.trans (hb2.mono hb1.size)⟩
  rw [e, ← hsz]
  exact ht
theorem len_b (T : Nat) (M R : Nat → Prop) (s : PT) (w : World) (h : TabM w T M R s) :
    Calls Try.prog 19 #[.pointer (some ⟨T, 0, none⟩)] w fun e w' => e = .returned (.int .i64 (s.prs.length : Int)) ∧ w = w' := by
  obtain ⟨ho, h1, h2, h3, S, c, h4, h5, h6⟩ := h
  have c2 := h4.cells.c2
  go_enter Try.func19, Try.ntmps19
  go_wp2_with fail
  refine (made_yes T S c _ _ _ _ h4.cells).mono ?_
  rintro e w1 ⟨rfl, rfl⟩
  go_wp2
  go_ret
  exact ⟨rfl, rfl⟩
theorem len_nil (w : World) :
    Calls Try.prog 19 #[.pointer none] w fun e w' => e = .returned (.int .i64 0) ∧ w = w' := by
  go_enter Try.func19, Try.ntmps19
  go_wp2_with fail
  refine (made_nil _).mono ?_
  rintro e w1 ⟨rfl, rfl⟩
  go_wp2
  go_ret
  exact ⟨rfl, rfl⟩
/-- what Get tells -/
def Gets (A : List (List UInt8 × Nat)) (k : List UInt8) (v : Nat) (b : Bool) : Prop := (b = true ∧ (k, v) ∈ A) ∨ (b = false ∧ v = 0 ∧ ∀ p ∈ A, p.1 ≠ k)
theorem get_nil (v : Value) (w : World) :
    Calls Try.prog 14 #[.pointer none, v] w fun e w' => e = .returned (.tuple #[.int .u64 0, .bool false]) ∧ w = w' := by
  go_enter Try.func14, Try.ntmps14
  go_wp2_with fail
  refine (mayT_nil _ _).mono ?_
  rintro e w1 ⟨rfl, rfl⟩
  go_wp2
  go_ret2
  exact ⟨rfl, rfl⟩
theorem get_zero (T : Nat) (v : Value) (w : World) (ht : w.cell? ⟨T, 1, none⟩ = some (.slice none 0 0)) :
    Calls Try.prog 14 #[.pointer (some ⟨T, 0, none⟩), v] w fun e w' => e = .returned (.tuple #[.int .u64 0, .bool false]) ∧ w = w' := by
  go_enter Try.func14, Try.ntmps14
  go_wp2_with fail
  refine (mayT_zero T _ _ ht).mono ?_
  rintro e w1 ⟨rfl, rfl⟩
  go_wp2
  go_ret2
  exact ⟨rfl, rfl⟩
theorem get_b (T : Nat) (M R : Nat → Prop) (s : PT) (w : World) (h : TabM w T M R s) (kv : Value) (k : List UInt8) (hk : Bs w w.heap.size kv k) (hkl : k.length < 1000000) :
    Calls Try.prog 14 #[.pointer (some ⟨T, 0, none⟩), kv] w fun e w' => ∃ (v : Nat) (b : Bool), e = .returned (.tuple #[.int .u64 (v : Int), .bool b]) ∧ Gets s.prs k v b ∧ Below w.heap.size w w' := by
  obtain ⟨ho, h1, h2, h3, S, c, h4, h5, h6⟩ := h
  have HO := Lib.hid ho
  have HT := Lib.hid h4
  have HK := Lib.hid hk
  clear ho h4 hk h1 h2 h3
  by_cases hl : 0 < k.length ∧ k.length ≤ 64
  · go_enter Try.func14, Try.ntmps14
    go_wp2_with fail
    refine (mayT_yes T S c _ _ _ _ HT.out.cells _ k _ HK.out hl.1 hl.2).mono ?_
    rintro e w1 ⟨rfl, rfl⟩
    go_wp2_with fail
    refine (find_b T S c R s.seed _ s.sl _ HT.out HO.out.seed (by have := HO.out.l9; omega) (by have := HO.out.l8; omega) HO.out.emp HO.out.lay _ k HK.out hkl).mono ?_
    rintro e w2 ⟨⟨at', b, rfl, hf⟩, hb2⟩
    have HB := Lib.hid hb2
    have HT2 := Lib.hid (HT.out.on hb2)
    clear hb2
    rcases hf with ⟨rfl, hat, e, he, rfl⟩ | ⟨rfl, rfl, hno⟩
    · have hg : s.sl[at']? = some (some e) := by rw [at_lt hat] at he; rw [List.getElem?_eq_getElem hat, he]
      obtain ⟨A, ck, k0, k1, k2, k3, _⟩ := HT2.out.slots.used hg
      have hc1 := HT2.out.cells.c1
      have ja : (at' : Int) < (s.sl.length : Int) := by omega
      have HE := Lib.hid he
      clear he hg
      go_wp2
      go_ret2
      exact ⟨e.n, true, rfl, .inl ⟨rfl, mem_of_at HE.out⟩, HB.out⟩
    · have HN := Lib.hid hno
      clear hno
      go_wp2
      go_ret2
      exact ⟨0, false, rfl, .inr ⟨rfl, rfl, fun p hp e => by
        obtain ⟨i, x, _, h2, h3, _⟩ := mem_kn.1 (show (p.1, p.2) ∈ kn s.sl from hp)
        exact HN.out i x h2 (h3.trans e)⟩, HB.out⟩
  · have hl' : k.length = 0 ∨ 64 < k.length := by omega
    have HL := Lib.hid hl'
    clear hl hl'
    go_enter Try.func14, Try.ntmps14
    go_wp2_with fail
    refine (mayT_no T S c _ _ _ _ HT.out.cells _ k _ HK.out HL.out (by omega)).mono ?_
    rintro e w1 ⟨rfl, rfl⟩
    go_wp2
    go_ret2
    exact ⟨0, false, rfl, .inr ⟨rfl, rfl, fun p hp e => by
      have := HO.out.keys p hp
      have := HL.out
      rw [← e] at this
      omega⟩, Below.refl _ _⟩
end Go.Proofs.Ytffcbekogpgciaa.Pr
