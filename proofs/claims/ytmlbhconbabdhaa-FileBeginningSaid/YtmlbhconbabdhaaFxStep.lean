
/-
  Layer 5: small facts for the walks of the laws.
-/
import Derived.Test.YtmlbhconbabdhaaFxFlip
import Derived.Test.YtmlbhconbabdhaaArgsF
set_option linter.unusedVariables false
set_option linter.unusedSimpArgs false
namespace Go.Proofs.Ytmlbhconbabdhaa
open Go.RowKit

theorem StepF.big {s s' : FSt} (h : StepF s s') : s'.big ≤ s.big + 60 := by
  rcases h with rfl | ⟨r, _, hr, rfl⟩ | ⟨k, _, rfl⟩
  · omega
  · rw [FSt.app_big]; omega
  · rw [FSt.cutd_big]; omega
theorem fequal_t {w : World} {B B' : Nat} {v v' : Value} {l : List UInt8} (h : Bs w B v l) (h' : Bs w B' v' l) :
    Calls Try.prog 16 #[v, v'] w fun e w' => e = .returned (.bool true) ∧ w = w' := by
  refine (fequal v v' l l B B' w h h').mono ?_
  rintro e w' ⟨rfl, rfl⟩
  exact ⟨by simp, rfl⟩
/-- append, where a guard says yes -/
theorem wpList_append_rd_w {P : Program} (w : World) {ops : Array Oper} {rest : List Oper} {o : Oper} {a : Act} {Q : Exit → Act → World → Prop} (hgw : Region.wanted o (yielded ops a.tmps) = true) (s x : Operand) (t : TypeId)
    (ho : o.op = .call { callee := .builtin .append, args := #[s, x], argTypes := #[t, t] })
    (base : Nat) (e : TypeId) (i : TypeInfo) (z : Value) (size bytes : Nat) (ht : P.underlying t = some (.slice e)) (hi : P.info? e = some i) (hz : i.zero = some z)
    (hsize : i.size = size) (hby : i.bytes = bytes) (hzs : z.cells.size = size) (hsz : 0 < size)
    (v : Value) (n : Nat) (xs : List Value) (hs : a.eval s = v) (hown : w.ownsRow base e size v n xs)
    (B : Nat) (A : Option Addr) (m c : Nat) (news : List Value) (hx : a.eval x = .slice A m c) (hl : news.length = m * size) (hr : Rd w B A news) (h1 : ∀ u ∈ news, u.oneCell' = true)
    (h63 : n + m ≤ maxLen) (hbytes : (n + m) * bytes ≤ 140737488355328) (hbase : base ≤ w.heap.size)
    (h : ∀ v' w', w'.ownsRow base e size v' (n + m) (xs ++ news) → Below base w w' → w.grownBy w' v.ownBlock → (v'.ownBlock = v.ownBlock ∨ v'.ownBlock = some w.heap.size) → wpList P ops Q rest (a.put o.dst v') w') : wpList P ops Q (o :: rest) a w :=
  BigFrame.wpList_want hgw fun _ hK => wp_append_rd w s x t ho base e i z size bytes ht hi hz hsize hby hzs hsz v n xs hs hown B A m c news hx hl hr h1 h63 hbytes hbase fun v' w' h2 h3 h4 =>
    hK _ _ (h v' w' h2 ((Below.refl _ _).grown h3 hbase fun k hk => (hown.lt k hk).1) h3 h4)
/-- an append of whatever row -/
def FSt.appe (s : FSt) (r : List UInt8) : FSt := if r = [] then s else s.app r
theorem FSt.appe_ok {s : FSt} (h : s.Ok) (r : List UInt8) : (s.appe r).Ok := by
  unfold FSt.appe
  split
  · exact h
  · rename_i hr; exact FSt.app_ok h hr
theorem FSt.appe_bytes (s : FSt) (r : List UInt8) : (s.appe r).bytes = s.bytes ++ r := by
  unfold FSt.appe
  split
  · rename_i hr; simp [hr]
  · exact FSt.app_bytes s r
theorem FSt.appe_loose (s : FSt) (r : List UInt8) : (s.appe r).loose = s.loose + r.length := by
  unfold FSt.appe
  split
  · rename_i hr; simp [hr]
  · exact FSt.app_loose s r
theorem FSt.appe_safe (s : FSt) (r : List UInt8) : (s.appe r).safe = s.safe := by
  unfold FSt.appe
  split <;> rfl
theorem FSt.appe_big (s : FSt) (r : List UInt8) : (s.appe r).big = s.big + r.length := by
  unfold FSt.big
  rw [FSt.appe_loose, FSt.appe_safe, Nat.add_assoc]
theorem FSt.appe_behind {s : FSt} (h : s.Ok) (r : List UInt8) (k : Nat) : (s.appe r).behind k = if k ≤ s.loose then s.behind k else s.bytes ++ r.take (k - s.loose) := by
  unfold FSt.appe
  split
  · rename_i hr
    subst hr
    split
    · rfl
    · rename_i hk
      rw [List.take_nil, List.append_nil, ← h.whole]
      exact settleL_over _ _ _ (by have : s.loose = unitsL s.deeds := rfl; omega)
  · split
    · rename_i hk; exact FSt.app_behind s r hk
    · rename_i hk
      have := FSt.app_more h r (k - s.loose)
      rw [show s.loose + (k - s.loose) = k by omega] at this
      exact this
/-- two appends behind safe bytes: the first so many bytes -/
theorem two_behind (c r1 r2 : List UInt8) (k : Nat) : (((FSt.new c).appe r1).appe r2).behind k = c ++ (r1 ++ r2).take k := by
  have h0 := FSt.new_ok c
  have h1 := FSt.appe_ok h0 r1
  rw [FSt.appe_behind h1, FSt.appe_behind h0, FSt.appe_loose, FSt.appe_bytes, FSt.new_bytes, List.take_append]
  have e0 : (FSt.new c).loose = 0 := rfl
  have e1 : (FSt.new c).behind k = c := by simp [FSt.behind, FSt.new, settleL]
  rw [e0, e1, Nat.zero_add, Nat.sub_zero]
  split
  · rename_i hk
    rw [show k - r1.length = 0 by omega, List.take_zero, List.append_nil]
    split
    · rename_i hk0
      rw [show k = 0 by omega, List.take_zero, List.append_nil]
    · rfl
  · rename_i hk
    rw [List.take_of_length_le (by omega : r1.length ≤ k), List.append_assoc]
theorem fappend_e {w : World} {F : Nat} {M R N : Nat → Prop} {s : FSt} {v : Value} {r : List UInt8} (h : FileM w F M R s) (hv : BsIn w N v r) (hN : ∀ i, M i → ¬ N i) (hb : s.big + r.length ≤ 10000000) :
    Calls Try.prog 19 #[.pointer (some ⟨F, 0, none⟩), v] w fun e w' => e = .returned (.int .i64 0) ∧ Mut w w' F M R (s.appe r) := by
  by_cases hr : r = []
  · subst hr
    obtain ⟨A, c, rfl, _, _⟩ := hv
    refine (fappend_none F c A).mono ?_
    rintro e w' ⟨rfl, hb⟩
    exact ⟨rfl, Mut.of_below h hb⟩
  · have e : s.appe r = s.app r := if_neg hr
    rw [e]
    exact fappend_m h hv hN hr hb
/-- a row of its own, however long the list says it is -/
theorem own_len {w : World} {B n : Nat} {e : TypeId} {v : Value} {l : List UInt8} (h : w.ownsRow B e 1 v n (bvs l)) : ∃ A c, v = .slice A l.length c := by
  have hn : l.length = n := by have := h.1; simpa [bvs] using this
  subst hn
  obtain ⟨A, c, e, _⟩ := own_slice h
  exact ⟨A, c, e⟩
theorem behind_zero (s : FSt) : s.behind 0 = s.safe := settleL_zero _ _
theorem FileM.lt1 {w : World} {F : Nat} {M R : Nat → Prop} {s : FSt} (h : FileM w F M R s) : ∀ i, M i → i < w.heap.size := h.2.2.1
theorem FileM.lt2 {w : World} {F : Nat} {M R : Nat → Prop} {s : FSt} (h : FileM w F M R s) : ∀ i, R i → i < w.heap.size := h.2.2.2.1
/-- the act that the laws' loop has at hand -/
theorem Act5At.on {w w' : World} {B b o : Nat} {a : Act5} (h : Act5At w B b o a) (hb : Below B w w') (hB : b < B) : Act5At w' B b o a := by
  obtain ⟨h0, h1, h2, v, h3, h4, h5⟩ := h
  exact ⟨(hb.cell (p := ⟨b, o, none⟩) hB).trans h0, (hb.cell (p := ⟨b, o + 1, none⟩) hB).trans h1, (hb.cell (p := ⟨b, o + 2, none⟩) hB).trans h2, v, (hb.cell (p := ⟨b, o + 3, none⟩) hB).trans h3, h4.below hb (Nat.le_refl _), h5⟩
end Go.Proofs.Ytmlbhconbabdhaa
