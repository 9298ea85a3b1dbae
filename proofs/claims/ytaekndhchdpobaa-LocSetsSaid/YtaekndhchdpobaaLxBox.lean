
/-
  Layer 3: boxes of locs in memory, kept by what others do; an append at a step of a region that draws its order.
-/
import Derived.Test.YtaekndhchdpobaaLxForm
import Derived.Deep.RegionHeld3
set_option linter.unusedVariables false
set_option linter.unusedSimpArgs false
namespace Go.Proofs.Ytaekndhchdpobaa
open Go.RowKit

/-- block n holds the loc (s, o) -/
def LBox (w : World) (n : Nat) (s o : Int) : Prop := w.cell? ⟨n, 0, none⟩ = some (.int .u32 s) ∧ w.cell? ⟨n, 1, none⟩ = some (.int .u32 o) ∧ w.frozen? ⟨n, 0, none⟩ = false ∧ w.frozen? ⟨n, 1, none⟩ = false ∧ n < w.heap.size
theorem LBox.on {w w' : World} {n : Nat} {s o : Int} (h : LBox w n s o) (hb : Below w.heap.size w w') : LBox w' n s o :=
  ⟨(hb.cell h.2.2.2.2).trans h.1, (hb.cell h.2.2.2.2).trans h.2.1, (hb.frozen h.2.2.2.2).trans h.2.2.1, (hb.frozen h.2.2.2.2).trans h.2.2.2.1, Nat.lt_of_lt_of_le h.2.2.2.2 hb.size⟩
theorem LBox.new (w : World) (s o : Int) (t : TypeId) : LBox (w.alloc (.cells #[.int .u32 s, .int .u32 o] t)) w.heap.size s o := by
  refine ⟨by simp, by simp, by simp, by simp, by simp⟩

theorem LBox.drew {w : World} {n : Nat} {s o : Int} (h : LBox w n s o) : LBox w.drew n s o := h
theorem LBox.new2 (w : World) (b : Obj) (s o : Int) (t : TypeId) : LBox ((w.alloc b).alloc (.cells #[.int .u32 s, .int .u32 o] t)) (w.heap.size + 1) s o := by
  have h := LBox.new (w.alloc b) s o t
  rw [World.size_alloc] at h
  exact h
/-- a loc laid into its box -/
theorem LBox.set {w : World} {n : Nat} {s o : Int} (h : LBox w n s o) (s' o' : Int) : LBox ((w.setCell ⟨n, 0, none⟩ (.int .u32 s')).setCell ⟨n, 1, none⟩ (.int .u32 o')) n s' o' := by
  obtain ⟨c0, c1, f0, f1, hz⟩ := h
  refine ⟨?_, ?_, ?_, ?_, ?_⟩
  · rw [World.cell?_setCell_other _ _ _ _ (by intro e; injection e with e1 e2; omega)]
    exact World.cell?_setCell_same _ _ _ c0
  · exact World.cell?_setCell_same _ _ _ ((World.cell?_setCell_other w ⟨n, 0, none⟩ ⟨n, 1, none⟩ _ (by intro e; injection e with e1 e2; omega)).trans c1)
  · rw [World.frozen?_setCell, World.frozen?_setCell]; exact f0
  · rw [World.frozen?_setCell, World.frozen?_setCell]; exact f1
  · simpa using hz
theorem LBox.set_other {w : World} {n m : Nat} {s o : Int} (h : LBox w n s o) (hn : n ≠ m) (s' o' : Int) : LBox ((w.setCell ⟨m, 0, none⟩ (.int .u32 s')).setCell ⟨m, 1, none⟩ (.int .u32 o')) n s o := by
  obtain ⟨c0, c1, f0, f1, hz⟩ := h
  refine ⟨?_, ?_, ?_, ?_, ?_⟩
  · rw [World.cell?_setCell_other _ _ _ _ (by intro e; injection e with e1 e2; omega), World.cell?_setCell_other _ _ _ _ (by intro e; injection e with e1 e2; omega)]
    exact c0
  · rw [World.cell?_setCell_other _ _ _ _ (by intro e; injection e with e1 e2; omega), World.cell?_setCell_other _ _ _ _ (by intro e; injection e with e1 e2; omega)]
    exact c1
  · rw [World.frozen?_setCell, World.frozen?_setCell]; exact f0
  · rw [World.frozen?_setCell, World.frozen?_setCell]; exact f1
  · simpa using hz

theorem LBox.grown {w w' : World} {n : Nat} {s o : Int} {row : Option Nat} (h : LBox w n s o) (hg : w.grownBy w' row) (hr : ∀ k, row = some k → k ≠ n) : LBox w' n s o := by
  obtain ⟨c0, c1, f0, f1, hz⟩ := h
  have hb := hg.block n hz (fun e => hr n e.symm rfl)
  have hc : ∀ o, w'.cell? ⟨n, o, none⟩ = w.cell? ⟨n, o, none⟩ := fun o => World.cell?_of_block hb
  have hf : ∀ o, w'.frozen? ⟨n, o, none⟩ = w.frozen? ⟨n, o, none⟩ := fun o => World.frozen?_of_block hb
  exact ⟨(hc 0).trans c0, (hc 1).trans c1, (hf 0).trans f0, (hf 1).trans f1, Nat.lt_of_lt_of_le hz hg.size⟩

/-- block n holds a number and a value -/
def ABox (w : World) (n : Nat) (k : Int) (v : Value) : Prop := w.cell? ⟨n, 0, none⟩ = some (.int .u64 k) ∧ w.cell? ⟨n, 1, none⟩ = some v ∧ n < w.heap.size
theorem ABox.on {w w' : World} {n : Nat} {k : Int} {v : Value} (h : ABox w n k v) (hb : Below w.heap.size w w') : ABox w' n k v :=
  ⟨(hb.cell h.2.2).trans h.1, (hb.cell h.2.2).trans h.2.1, Nat.lt_of_lt_of_le h.2.2 hb.size⟩

theorem ABox.new2 (w : World) (b : Obj) (k : Int) (v : Value) (t : TypeId) : ABox ((w.alloc b).alloc (.cells #[.int .u64 k, v] t)) (w.heap.size + 1) k v := by
  refine ⟨by simp, by simp, by simp⟩
theorem ABox.set_other {w : World} {n m : Nat} {k : Int} {v : Value} (h : ABox w n k v) (hn : n ≠ m) (s' o' : Int) : ABox ((w.setCell ⟨m, 0, none⟩ (.int .u32 s')).setCell ⟨m, 1, none⟩ (.int .u32 o')) n k v := by
  obtain ⟨c0, c1, hz⟩ := h
  refine ⟨?_, ?_, ?_⟩
  · rw [World.cell?_setCell_other _ _ _ _ (by intro e; injection e with e1 e2; omega), World.cell?_setCell_other _ _ _ _ (by intro e; injection e with e1 e2; omega)]
    exact c0
  · rw [World.cell?_setCell_other _ _ _ _ (by intro e; injection e with e1 e2; omega), World.cell?_setCell_other _ _ _ _ (by intro e; injection e with e1 e2; omega)]
    exact c1
  · simpa using hz

/-- a row of the call's own that was made behind block g lies elsewhere -/
theorem own_apart {w w' : World} {g n : Nat} {e : TypeId} {size : Nat} {v : Value} {xs : List Value} (h : w'.ownsRow w.heap.size e size v n xs) (hg : g < w.heap.size) : ∀ k, v.ownBlock = some k → k ≠ g := fun k hk e => by
  have := (h.lt k hk).1
  omega
theorem own_apart' {w : World} {b n : Nat} {e : TypeId} {size : Nat} {v : Value} {xs : List Value} (h : w.ownsRow b e size v n xs) : ∀ k, v.ownBlock = some k → k ≠ w.heap.size := fun k hk e => by
  have := (h.lt k hk).2
  omega
theorem bs_app {w : World} {b n m : Nat} {e : TypeId} {v : Value} {l l' : List UInt8} (h : w.ownsRow b e 1 v (n + m) (bvs l ++ bvs l')) : Bs w w.heap.size v (l ++ l') := by
  rw [← bvs_append] at h
  exact Bs.of_own h

theorem step_append_rd {P : Program} (w : World) {ops : Array Oper} {o : Oper} {a : Act} {K : Act → World → Prop} {Q : Exit → Act → World → Prop} {E : Prop} (hgd : o.guard = none) (s x : Operand) (t : TypeId)
    (ho : o.op = .call { callee := .builtin .append, args := #[s, x], argTypes := #[t, t] })
    (base : Nat) (e : TypeId) (i : TypeInfo) (z : Value) (size bytes : Nat) (ht : P.underlying t = some (.slice e)) (hi : P.info? e = some i) (hz : i.zero = some z)
    (hsize : i.size = size) (hby : i.bytes = bytes) (hzs : z.cells.size = size) (hsz : 0 < size)
    (v : Value) (n : Nat) (xs : List Value) (hs : a.eval s = v) (hown : w.ownsRow base e size v n xs)
    (B : Nat) (A : Option Addr) (m c : Nat) (news : List Value) (hx : a.eval x = .slice A m c) (hl : news.length = m * size) (hr : Rd w B A news) (h1 : ∀ u ∈ news, u.oneCell' = true)
    (h63 : n + m ≤ maxLen) (hbytes : (n + m) * bytes ≤ 140737488355328) (hbase : base ≤ w.heap.size)
    (h : ∀ v' w', w'.ownsRow base e size v' (n + m) (xs ++ news) → Below base w w' → w.grownBy w' v.ownBlock → K (a.put o.dst v') w') :
    if Region.wanted o (yielded ops a.tmps) = true then Oper.wp P o a w K Q else E := by
  have hw : Region.wanted o (yielded ops a.tmps) = true := by simp [Region.wanted, hgd]
  rw [if_pos hw]
  exact wp_append_rd w s x t ho base e i z size bytes ht hi hz hsize hby hzs hsz v n xs hs hown B A m c news hx hl hr h1 h63 hbytes hbase fun v' w' h2 h3 h4 =>
    h v' w' h2 ((Below.refl _ _).grown h3 hbase fun k hk => (hown.lt k hk).1) h3
end Go.Proofs.Ytaekndhchdpobaa
