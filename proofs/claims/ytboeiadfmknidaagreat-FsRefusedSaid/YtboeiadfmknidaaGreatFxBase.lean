
/-
  Layer 5: bytes.Clone, bytes.Equal, bytes.HasPrefix; what a deed's calls do.
-/
import Derived.Test.YtboeiadfmknidaaGreatFxPlain
import Derived.Test.YtboeiadfmknidaaGreatCut
import Derived.Deep.QuietTactic
import Derived.BigQuiet
import Derived.StillTailTactics
import Derived.Deep.DeepFit
import Derived.Deep.RegionHeld3
import Derived.Deep.RegionWith
import Derived.Lib.SliceRun
import Derived.Lib.Hide
import Derived.WalkSpells
set_option linter.unusedVariables false
set_option linter.unusedSimpArgs false
namespace Go.Proofs.YtboeiadfmknidaaGreat
open Go.RowKit

theorem fbyte_info : (Tryz.prog.info? 5).map (fun i => (i.zero, i.size, i.bytes)) = some (some (.int .u8 0), 1, 1) := by kernel_rfl

theorem fequal (v v' : Value) (l l' : List UInt8) (B B' : Nat) (w : World) (h : Bs w B v l) (h' : Bs w B' v' l') :
    Calls Tryz.prog 57 #[v, v'] w fun e w' => e = .returned (.bool (l == l')) ∧ w = w' := by
  obtain ⟨A, c, rfl, _, h⟩ := h
  obtain ⟨A', c', rfl, _, h'⟩ := h'
  have c1 := convert_rd (P := Tryz.prog) h c 23 5 9 Tryz.underlying23 Tryz.underlying5 Tryz.underlying9
  have c2 := convert_rd (P := Tryz.prog) h' c' 23 5 9 Tryz.underlying23 Tryz.underlying5 Tryz.underlying9
  go_enter Tryz.func57, Tryz.ntmps57
  go_wp2
  go_ret
  exact ⟨rfl, rfl⟩

theorem fclone (v : Value) (l : List UInt8) (B : Nat) (w : World) (h : Bs w B v l) (hB : B ≤ w.heap.size) (hm : l.length ≤ 140737488355328) :
    Calls Tryz.prog 13 #[v] w fun e w' => ∃ r, e = .returned r ∧ w'.ownsRow w.heap.size 5 1 r l.length (bvs l) ∧ Below w.heap.size w w' := by
  obtain ⟨i0, hi0, hz0, hz1, hz2⟩ := info_parts fbyte_info
  obtain ⟨A, c, rfl, hc, hr⟩ := h
  have hq := @Lib.run_eql_slice_nil Tryz.prog
  rcases A with _ | a
  · have hl : l = [] := by
      rcases l with _ | ⟨x, r⟩
      · rfl
      · obtain ⟨b, o, h, _⟩ := hr (by simp [bvs])
        cases h
    subst hl
    go_enter Tryz.func13, Tryz.ntmps13
    go_wp2
    go_ret
    exact ⟨_, rfl, World.ownsRow_nil _ _ _ _, Below.refl _ _⟩
  · have hown0 : (w.alloc (Obj.cells #[] 5)).ownsRow w.heap.size 5 1 (.slice (some ⟨w.heap.size, 0, none⟩) 0 0) 0 [] := World.ownsRow_lit w #[] 0 (Nat.le_refl _) (Nat.zero_le _) rfl
    have Hr := Lib.hid hr
    clear hr
    go_enter Tryz.func13, Tryz.ntmps13
    go_wp2_with (at_builtin; (refine wpList_append_rd _ rfl _ _ 23 rfl w.heap.size 5 i0 (.int .u8 0) 1 1 Tryz.underlying23 hi0 hz0 hz1 hz2 rfl (by omega) (.slice (some ⟨w.heap.size, 0, none⟩) 0 0) 0 [] rfl hown0 B (some a) l.length c (bvs l) rfl (by simp [bvs]) (Hr.out.alloc hB _) (bvs_one l) (by unfold maxLen; omega) (by omega) (by simp) ?_); intro v1 w1 hown1 hbw1 _ _)
    go_ret
    exact ⟨v1, rfl, by simpa using hown1, ((Below.refl _ _).alloc (Nat.le_refl _) _).trans hbw1⟩

/-- 's[:k]' -/
theorem cut_h (A : Option Addr) (n c k : Nat) (hkc : k ≤ c) (w : World) :
    (Instr.sliceAt 23 (.slice A n c) none (some (.int .i64 (k : Int))) none).run Tryz.prog w = .ok (.slice A k c) w := by
  rw [run_sliceAt_slice _ 23 _ _ _ _ elBytes, run_slice_h _ 23 A n c elBytes .i64 k (by omega) (by omega)]
  have : (sizeOf (Tryz.prog.elem 23)).run Tryz.prog w = .ok 1 w := by kernel_rfl
  rw [this]
  have e : (if c = 0 then A else A.map (·.add 0)) = A := by
    split
    · rfl
    · cases A with
      | none => rfl
      | some a => simp [Addr.add]
  simp [Result.andThen, sliced, e]

/-- a value of the type added -/
def addV (A : Option Addr) (n c : Nat) : Value := .iface 95 (.agg #[.slice A n c])
def cutV (s : Nat) : Value := .iface 116 (.agg #[.int .i64 (s : Int)])

theorem added_units (A : Option Addr) (n c : Nat) (w : World) :
    Calls Tryz.prog 154 #[.agg #[.slice A n c]] w fun e w' => e = .returned (.int .i64 (n : Int)) ∧ Below w.heap.size w w' := by
  go_enter Tryz.func154, Tryz.ntmps154
  go_wp2
  go_ret
  exact ⟨rfl, (Below.refl _ _).alloc (Nat.le_refl _) _⟩
theorem cut_units (s : Nat) (w : World) :
    Calls Tryz.prog 156 #[.agg #[.int .i64 (s : Int)]] w fun e w' => e = .returned (.int .i64 1) ∧ Below w.heap.size w w' := by
  go_enter Tryz.func156, Tryz.ntmps156
  go_wp2
  go_ret
  exact ⟨rfl, (Below.refl _ _).alloc (Nat.le_refl _) _⟩
theorem added_do (A : Option Addr) (r : List UInt8) (c m B : Nat) (v : Value) (b : List UInt8) (w : World) (hc : r.length ≤ c) (hm : m ≤ r.length) (hr : Rd w B A (bvs r)) (hB : B ≤ w.heap.size)
    (hv : w.ownsRow 0 5 1 v b.length (bvs b)) (hbig : b.length + r.length ≤ 10000000) :
    Calls Tryz.prog 153 #[.agg #[.slice A r.length c], v, .int .i64 (m : Int)] w fun e w' => ∃ v', e = .returned v' ∧ w'.ownsRow 0 5 1 v' (b ++ r.take m).length (bvs (b ++ r.take m)) ∧
      w.grownBy w' v.ownBlock ∧ (v'.ownBlock = v.ownBlock ∨ ∀ g, v'.ownBlock = some g → w.heap.size ≤ g) := by
  obtain ⟨i0, hi0, hz0, hz1, hz2⟩ := info_parts fbyte_info
  obtain ⟨Av, cv, rfl, hvc, hvm, _⟩ := own_slice hv
  have hcut := cut_h A r.length c m (by omega)
  have Hr := Lib.hid hr
  have Hv := Lib.hid hv
  clear hr hv
  go_enter Tryz.func153, Tryz.ntmps153
  go_wp2_with (at_builtin; (refine wpList_append_rd _ rfl _ _ 23 rfl 0 5 i0 (.int .u8 0) 1 1 Tryz.underlying23 hi0 hz0 hz1 hz2 rfl (by omega) (.slice Av b.length cv) b.length (bvs b) rfl (Hv.out.alloc _) B A m c (bvs (r.take m)) rfl (by simp [bvs]; omega) (by rw [bvs_take]; exact (Hr.out.alloc hB _).take m) (bvs_one _) (by unfold maxLen; omega) (by omega) (Nat.zero_le _) ?_); intro v1 w1 hown1 hbw1 hg1 hv1)
  go_ret
  refine ⟨v1, rfl, ?_, ?_, ?_⟩
  · rw [bvs_append, List.length_append, List.length_take, show min m r.length = m by omega]
    exact hown1
  · exact ⟨hg1.os, hg1.tape, hg1.output, Nat.le_trans (by simp) hg1.size, fun k hk hne => (hg1.block k (by simp; omega) hne).trans (Below.heap_alloc w _ k hk)⟩
  · rcases hv1 with h | h
    · exact .inl h
    · exact .inr fun g hg => by rw [h] at hg; injection hg with hg; simp at hg; omega
theorem own_take {w : World} {v : Value} {A : Option Addr} {l : List UInt8} {c s : Nat} (h : w.ownsRow 0 5 1 (.slice A l.length c) l.length (bvs l)) (hs : s ≤ l.length) : w.ownsRow 0 5 1 (.slice A s c) (l.take s).length (bvs (l.take s)) := by
  have hl : (l.take s).length = s := by rw [List.length_take]; omega
  rw [hl]
  refine ⟨by rw [bvs_length]; omega, ?_⟩
  rcases h.2 with ⟨e, hn⟩ | ⟨g, cap, cur, e, hg, hc, h1, h2, h3, h4⟩
  · injection e with e1 e2 e3
    subst e1 e3
    exact .inl ⟨by rw [show s = 0 by omega], by omega⟩
  · injection e with e1 e2 e3
    subst e1 e3
    refine .inr ⟨g, _, cur, rfl, hg, hc, by omega, h2, h3, ?_⟩
    rw [bvs_take, ← h4, List.take_take]
    congr 1
    omega
theorem cut_do (s m : Nat) (v : Value) (b : List UInt8) (w : World) (hm : m = 0 ∨ s ≤ b.length) (hs : s < 9223372036854775808)
    (hv : w.ownsRow 0 5 1 v b.length (bvs b)) (hm1 : m ≤ 1) :
    Calls Tryz.prog 155 #[.agg #[.int .i64 (s : Int)], v, .int .i64 (m : Int)] w fun e w' => ∃ v', e = .returned v' ∧ w'.ownsRow 0 5 1 v' ((Deed.cut s).act b m).length (bvs ((Deed.cut s).act b m)) ∧
      w.grownBy w' v.ownBlock ∧ (v'.ownBlock = v.ownBlock ∨ ∀ g, v'.ownBlock = some g → w.heap.size ≤ g) := by
  obtain ⟨Av, cv, rfl, hvc, hvm, _⟩ := own_slice hv
  have Hv := Lib.hid hv
  clear hv
  have hb : Below w.heap.size w (w.alloc (.cells #[.int .i64 (s : Int)] 116)) := (Below.refl _ _).alloc (Nat.le_refl _) _
  have Hg : Hid (w.grownBy (w.alloc (.cells #[.int .i64 (s : Int)] 116)) (Value.slice Av b.length cv).ownBlock) := World.grownBy_alloc _ _ _
  rcases (show m = 0 ∨ m = 1 by omega) with rfl | rfl
  · go_enter Tryz.func155, Tryz.ntmps155
    go_wp2_with fail
    go_ret
    exact ⟨_, rfl, Hv.out.alloc _, Hg.out, .inl rfl⟩
  · have hsb : s ≤ b.length := by omega
    have hcut := cut_h Av b.length cv s (by omega)
    go_enter Tryz.func155, Tryz.ntmps155
    go_wp2_with fail
    go_ret
    refine ⟨_, rfl, ?_, Hg.out, .inl ?_⟩
    · show (w.alloc _).ownsRow 0 _ 1 _ (b.take s).length (bvs (b.take s))
      exact own_take (v := .nilIface) (Hv.out.alloc _) hsb
    · cases Av <;> rfl
end Go.Proofs.YtboeiadfmknidaaGreat
