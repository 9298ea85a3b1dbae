
/-
  Layer 8: records in boxes.
-/
import Derived.Test.YtmiljicohnfejaaDoorRcKnows
import Derived.Test.YtmiljicohnfejaaDoorRcMade
import Derived.Test.YtmiljicohnfejaaDoorStep
import Derived.Test.YtmiljicohnfejaaDoorRegion
import Derived.Deep.DeepCutAuto
import Derived.Deep.RegionHeldLaw
set_option linter.unusedVariables false
set_option linter.unusedSimpArgs false
namespace Go.Proofs.YtmiljicohnfejaaDoor
open Go.RowKit

/-- block g holds the record r -/
def BoxR (w : World) (g : Nat) (r : Rc.Rec) : Prop := ∃ A c A' c', w.heap[g]? = some (.cells #[.int .u64 r.seq, .int .i64 r.kind, .slice A r.key.length c, .slice A' r.val.length c', .int .u32 r.seg, .int .u32 r.off] 28 (0, 0)) ∧
  Bs w w.heap.size (.slice A r.key.length c) r.key ∧ Bs w w.heap.size (.slice A' r.val.length c') r.val
theorem BoxR.lt {w : World} {g : Nat} {r : Rc.Rec} (h : BoxR w g r) : g < w.heap.size := by
  obtain ⟨_, _, _, _, h, _⟩ := h
  exact (Array.getElem?_eq_some_iff.1 h).1
theorem BoxR.on {w w' : World} {g : Nat} {r : Rc.Rec} (h : BoxR w g r) (hb : Below w.heap.size w w') : BoxR w' g r := by
  have hl := h.lt
  obtain ⟨A, c, A', c', h1, h2, h3⟩ := h
  exact ⟨A, c, A', c', (hb.block g hl).trans h1, h2.on hb, h3.on hb⟩
theorem RecV.form {w : World} {B : Nat} {v : Value} {r : Rc.Rec} (h : RecV w B v r) : ∃ A c A' c', v = .agg #[.int .u64 r.seq, .int .i64 r.kind, .slice A r.key.length c, .slice A' r.val.length c', .int .u32 r.seg, .int .u32 r.off] ∧ Bs w B (.slice A r.key.length c) r.key ∧ Bs w B (.slice A' r.val.length c') r.val := by
  obtain ⟨kv, vv, rfl, h1, h2⟩ := h
  obtain ⟨A, c, rfl, _, _⟩ := id h1
  obtain ⟨A', c', rfl, _, _⟩ := id h2
  exact ⟨A, c, A', c', rfl, h1, h2⟩
theorem box_new {w : World} {A A' : Option Addr} {c c' : Nat} {r : Rc.Rec} {B : Nat} (h1 : Bs w B (.slice A r.key.length c) r.key) (h2 : Bs w B (.slice A' r.val.length c') r.val) (hB : B ≤ w.heap.size) :
    BoxR (w.alloc (.cells #[.int .u64 r.seq, .int .i64 r.kind, .slice A r.key.length c, .slice A' r.val.length c', .int .u32 r.seg, .int .u32 r.off] 28)) w.heap.size r :=
  ⟨A, c, A', c', heap_alloc_new w _, (h1.mono hB).on (bnew w _), (h2.mono hB).on (bnew w _)⟩

/-- a record stored into a box -/
def set6 (w : World) (g : Nat) (y0 y1 y2 y3 y4 y5 : Value) : World :=
  (((((w.setCell ⟨g, 0, none⟩ y0).setCell ⟨g, 1, none⟩ y1).setCell ⟨g, 2, none⟩ y2).setCell ⟨g, 3, none⟩ y3).setCell ⟨g, 4, none⟩ y4).setCell ⟨g, 5, none⟩ y5
theorem set1 {w : World} {g i : Nat} {cur : Array Value} {t : TypeId} (h : w.heap[g]? = some (.cells cur t (0, 0))) (v : Value) : (w.setCell ⟨g, i, none⟩ v).heap[g]? = some (.cells (cur.setIfInBounds i v) t (0, 0)) := by
  rw [setCell_eq_setRow w g i cur t (0, 0) v h]
  exact setRow_heap w g cur _ t (0, 0) h
theorem set6_at {w : World} {g : Nat} {x0 x1 x2 x3 x4 x5 : Value} {t : TypeId} (h : w.heap[g]? = some (.cells #[x0, x1, x2, x3, x4, x5] t (0, 0))) (y0 y1 y2 y3 y4 y5 : Value) :
    (set6 w g y0 y1 y2 y3 y4 y5).heap[g]? = some (.cells #[y0, y1, y2, y3, y4, y5] t (0, 0)) := by
  have := set1 (i := 5) (set1 (i := 4) (set1 (i := 3) (set1 (i := 2) (set1 (i := 1) (set1 (i := 0) h y0) y1) y2) y3) y4) y5
  simpa [set6] using this
theorem set6_other {w : World} {g k : Nat} (hk : k ≠ g) (y0 y1 y2 y3 y4 y5 : Value) : (set6 w g y0 y1 y2 y3 y4 y5).heap[k]? = w.heap[k]? := by
  unfold set6
  rw [Below.heap_setCell _ _ _ _ hk, Below.heap_setCell _ _ _ _ hk, Below.heap_setCell _ _ _ _ hk, Below.heap_setCell _ _ _ _ hk, Below.heap_setCell _ _ _ _ hk, Below.heap_setCell _ _ _ _ hk]
theorem set6_below {w w0 : World} {g B : Nat} (hb : Below B w0 w) (hg : B ≤ g) (y0 y1 y2 y3 y4 y5 : Value) : Below B w0 (set6 w g y0 y1 y2 y3 y4 y5) := below6 hb hg _ _ _ _ _ _
theorem set6_size {w : World} {g : Nat} (y0 y1 y2 y3 y4 y5 : Value) : (set6 w g y0 y1 y2 y3 y4 y5).heap.size = w.heap.size := by
  simp [set6, World.setCell]
theorem BoxR.cells {w : World} {g : Nat} {r : Rc.Rec} (h : BoxR w g r) : ∃ A c A' c', (w.cell? ⟨g, 0, none⟩ = some (.int .u64 r.seq) ∧ w.cell? ⟨g, 1, none⟩ = some (.int .i64 r.kind) ∧ w.cell? ⟨g, 2, none⟩ = some (.slice A r.key.length c) ∧ w.cell? ⟨g, 3, none⟩ = some (.slice A' r.val.length c') ∧
    w.cell? ⟨g, 4, none⟩ = some (.int .u32 r.seg) ∧ w.cell? ⟨g, 5, none⟩ = some (.int .u32 r.off)) ∧ RecV w w.heap.size (.agg #[.int .u64 r.seq, .int .i64 r.kind, .slice A r.key.length c, .slice A' r.val.length c', .int .u32 r.seg, .int .u32 r.off]) r := by
  obtain ⟨A, c, A', c', h1, h2, h3⟩ := h
  exact ⟨A, c, A', c', box6h h1, ⟨_, _, rfl, h2, h3⟩⟩

theorem NewRec.form2 {w w' : World} {rv : Value} {r : Rc.Rec} (h : NewRec w w' rv r) : ∃ A c A' c', rv = .agg #[.int .u64 r.seq, .int .i64 r.kind, .slice A r.key.length c, .slice A' r.val.length c', .int .u32 r.seg, .int .u32 r.off] ∧
    (∀ gz w'', gz < w.heap.size → (∀ kk, kk ≠ gz → w''.heap[kk]? = w'.heap[kk]?) → Bs w'' w'.heap.size (.slice A r.key.length c) r.key ∧ Bs w'' w'.heap.size (.slice A' r.val.length c') r.val) ∧
    Bs w' w'.heap.size (.slice A r.key.length c) r.key ∧ Bs w' w'.heap.size (.slice A' r.val.length c') r.val := by
  rcases h with ⟨rfl, rfl⟩ | ⟨g1, g2, rfl, _, hg1, hg2, h1, h2⟩
  · exact ⟨none, 0, none, 0, rfl, fun _ _ _ _ => ⟨Bs.none_, Bs.none_⟩, Bs.none_, Bs.none_⟩
  · exact ⟨_, _, _, _, rfl, fun gz w'' hgz hw => ⟨RowAt.bs ((hw g1 (by omega)).trans h1) h1.lt, RowAt.bs ((hw g2 (by omega)).trans h2) h2.lt⟩, h1.bs h1.lt, h2.bs h2.lt⟩
theorem bs_rd {w : World} {B m c : Nat} {A : Option Addr} {l : List UInt8} (h : Bs w B (.slice A m c) l) : Rd w B A (bvs l) ∧ m = l.length := by
  obtain ⟨A2, c2, e, _, hr⟩ := h
  injection e with e1 e2 e3
  subst e1
  exact ⟨hr, e2⟩
/-- an append as one step of a region, with what it leaves alone -/
theorem step_append_gr {P : Program} (w : World) {ops : Array Oper} {o : Oper} {a : Act} {K : Act → World → Prop} {Q : Exit → Act → World → Prop} {E : Prop} (hgd : o.guard = none) (s x : Operand) (t : TypeId)
    (ho : o.op = .call { callee := .builtin .append, args := #[s, x], argTypes := #[t, t] })
    (base : Nat) (e : TypeId) (i : TypeInfo) (z : Value) (size bytes : Nat) (ht : P.underlying t = some (.slice e)) (hi : P.info? e = some i) (hz : i.zero = some z)
    (hsize : i.size = size) (hby : i.bytes = bytes) (hzs : z.cells.size = size) (hsz : 0 < size)
    (v : Value) (n : Nat) (xs : List Value) (hs : a.eval s = v) (hown : w.ownsRow base e size v n xs)
    (B : Nat) (A : Option Addr) (m c : Nat) (news : List Value) (hx : a.eval x = .slice A m c) (hl : news.length = m * size) (hr : Rd w B A news) (h1 : ∀ u ∈ news, u.oneCell' = true)
    (h63 : n + m ≤ maxLen) (hbytes : (n + m) * bytes ≤ 140737488355328) (hbase : base ≤ w.heap.size)
    (h : ∀ v' w', w'.ownsRow base e size v' (n + m) (xs ++ news) → Below base w w' → w.grownBy w' v.ownBlock → (v'.ownBlock = v.ownBlock ∨ v'.ownBlock = some w.heap.size) → K (a.put o.dst v') w') :
    if Region.wanted o (yielded ops a.tmps) = true then Oper.wp P o a w K Q else E := by
  have hw : Region.wanted o (yielded ops a.tmps) = true := by simp [Region.wanted, hgd]
  rw [if_pos hw]
  exact wp_append_rd w s x t ho base e i z size bytes ht hi hz hsize hby hzs hsz v n xs hs hown B A m c news hx hl hr h1 h63 hbytes hbase fun v' w' h2 h3 h4 =>
    h v' w' h2 ((Below.refl _ _).grown h3 hbase fun k hk => (hown.lt k hk).1) h3 h4
end Go.Proofs.YtmiljicohnfejaaDoor
