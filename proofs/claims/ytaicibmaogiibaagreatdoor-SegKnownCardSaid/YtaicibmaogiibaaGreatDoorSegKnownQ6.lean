/-
  SegKnown, part 6 of what the law's proof leans on: RcMade, RcBox.
-/
import Derived.Laws.BitsAllLaws
import Derived.Laws.NewBlocks
import Derived.Test.YtaicibmaogiibaaGreatDoorSegKnownQ5
import Derived.Deep.RegionLaw
import Derived.Deep.DeepCutAuto
import Derived.Deep.RegionHeldLaw
import Derived.Test.YtaicibmaogiibaaGreatDoorSegKnownQ1
/- RcMade -/

/-
  Layer 8: the walk of the laws' own made (a record brought into bounds).
-/
set_option linter.unusedVariables false
set_option linter.unusedSimpArgs false
namespace Go.Proofs.YtaicibmaogiibaaGreatDoor
open Go.RowKit

def Rc.made (r : Rc.Rec) : Rc.Rec :=
  { seq := 1 + r.seq % 1099511627776, kind := if r.kind = 2 then 2 else 1, key := if r.key.length = 0 then [7] else r.key.take 64, val := if r.kind = 2 then [] else r.val.take 1024,
    seg := r.seg % 16777216, off := if r.seg % 16777216 = 0 then 0 else 16 + r.off % 16777201 }
/-- all blocks below B, and those from C on, are as they were -/
def Keeps (B C : Nat) (w w' : World) : Prop := ∀ k, k < w.heap.size → (k < B ∨ C ≤ k) → w'.heap[k]? = w.heap[k]?
theorem Keeps.refl (B C : Nat) (w : World) : Keeps B C w w := fun _ _ _ => rfl
end Go.Proofs.YtaicibmaogiibaaGreatDoor

/- RcBox -/

/-
  Layer 8: records in boxes.
-/
set_option linter.unusedVariables false
set_option linter.unusedSimpArgs false
namespace Go.Proofs.YtaicibmaogiibaaGreatDoor
open Go.RowKit

/-- block g holds the record r -/
def BoxR (w : World) (g : Nat) (r : Rc.Rec) : Prop := ∃ A c A' c', w.heap[g]? = some (.cells #[.int .u64 r.seq, .int .i64 r.kind, .slice A r.key.length c, .slice A' r.val.length c', .int .u32 r.seg, .int .u32 r.off] 51 (0, 0)) ∧
  Bs w w.heap.size (.slice A r.key.length c) r.key ∧ Bs w w.heap.size (.slice A' r.val.length c') r.val
theorem BoxR.lt {w : World} {g : Nat} {r : Rc.Rec} (h : BoxR w g r) : g < w.heap.size := by
  obtain ⟨_, _, _, _, h, _⟩ := h
  exact (Array.getElem?_eq_some_iff.1 h).1
theorem BoxR.on {w w' : World} {g : Nat} {r : Rc.Rec} (h : BoxR w g r) (hb : Below w.heap.size w w') : BoxR w' g r := by
  have hl := h.lt
  obtain ⟨A, c, A', c', h1, h2, h3⟩ := h
  exact ⟨A, c, A', c', (hb.block g hl).trans h1, h2.on hb, h3.on hb⟩
theorem RecV.form {w : World} {B : Nat} {v : Value} {r : Rc.Rec} (h : RecV w B v r) : ∃ A c A' c', v = .agg #[.int .u64 r.seq, .int .i64 r.kind, .slice A r.key.length c, .slice A' r.val.length c', .int .u32 r.seg, .int .u32 r.off] ∧ Bs w B (.slice A r.key.length c) r.key ∧ Bs w B (.slice A' r.val.length c') r.val := by
  obtain ⟨kv, vv, rfl, h1, h2⟩ := h
  obtain ⟨A, c, rfl, _, _⟩ := id h1
  obtain ⟨A', c', rfl, _, _⟩ := id h2
  exact ⟨A, c, A', c', rfl, h1, h2⟩
/-- a record stored into a box -/
def set6 (w : World) (g : Nat) (y0 y1 y2 y3 y4 y5 : Value) : World :=
  (((((w.setCell ⟨g, 0, none⟩ y0).setCell ⟨g, 1, none⟩ y1).setCell ⟨g, 2, none⟩ y2).setCell ⟨g, 3, none⟩ y3).setCell ⟨g, 4, none⟩ y4).setCell ⟨g, 5, none⟩ y5
theorem set1 {w : World} {g i : Nat} {cur : Array Value} {t : TypeId} (h : w.heap[g]? = some (.cells cur t (0, 0))) (v : Value) : (w.setCell ⟨g, i, none⟩ v).heap[g]? = some (.cells (cur.setIfInBounds i v) t (0, 0)) := by
  rw [setCell_eq_setRow w g i cur t (0, 0) v h]
  exact setRow_heap w g cur _ t (0, 0) h
theorem BoxR.cells {w : World} {g : Nat} {r : Rc.Rec} (h : BoxR w g r) : ∃ A c A' c', (w.cell? ⟨g, 0, none⟩ = some (.int .u64 r.seq) ∧ w.cell? ⟨g, 1, none⟩ = some (.int .i64 r.kind) ∧ w.cell? ⟨g, 2, none⟩ = some (.slice A r.key.length c) ∧ w.cell? ⟨g, 3, none⟩ = some (.slice A' r.val.length c') ∧
    w.cell? ⟨g, 4, none⟩ = some (.int .u32 r.seg) ∧ w.cell? ⟨g, 5, none⟩ = some (.int .u32 r.off)) ∧ RecV w w.heap.size (.agg #[.int .u64 r.seq, .int .i64 r.kind, .slice A r.key.length c, .slice A' r.val.length c', .int .u32 r.seg, .int .u32 r.off]) r := by
  obtain ⟨A, c, A', c', h1, h2, h3⟩ := h
  exact ⟨A, c, A', c', box6h h1, ⟨_, _, rfl, h2, h3⟩⟩

/-- an append as one step of a region, with what it leaves alone -/
theorem step_append_gr {P : Program} (w : World) {ops : Array Oper} {o : Oper} {a : Act} {K : Act → World → Prop} {Q : Exit → Act → World → Prop} {E : Prop} (hgd : o.guard = none) (s x : Operand) (t : TypeId)
    (ho : o.op = .call { callee := .builtin .append, args := #[s, x], argTypes := #[t, t] })
    (base : Nat) (e : TypeId) (i : TypeInfo) (z : Value) (size bytes : Nat) (ht : P.underlying t = some (.slice e)) (hi : P.info? e = some i) (hz : i.zero = some z)
    (hsize : i.size = size) (hby : i.bytes = bytes) (hzs : z.cells.size = size) (hsz : 0 < size)
    (v : Value) (n : Nat) (xs : List Value) (hs : a.eval s = v) (hown : w.ownsRow base e size v n xs)
    (B : Nat) (A : Option Addr) (m c : Nat) (news : List Value) (hx : a.eval x = .slice A m c) (hl : news.length = m * size) (hr : Rd w B A news) (h1 : ∀ u ∈ news, u.oneCell' = true)
    (h63 : n + m ≤ maxLen) (hbytes : (n + m) * bytes ≤ 140737488355328) (hbase : base ≤ w.heap.size)
    (h : ∀ v' w', w'.ownsRow base e size v' (n + m) (xs ++ news) → Below base w w' → w.grownBy w' v.ownBlock → (v'.ownBlock = v.ownBlock ∨ v'.ownBlock = some w.heap.size) → K (a.put o.dst v') w') :
    if Region.wanted o (yielded ops a.tmps) = true then Oper.wp P o a w K Q else E := by
  have hw : Region.wanted o (yielded ops a.tmps) = true := by simp [Region.wanted, hgd]
  rw [if_pos hw]
  exact wp_append_rd w s x t ho base e i z size bytes ht hi hz hsize hby hzs hsz v n xs hs hown B A m c news hx hl hr h1 h63 hbytes hbase fun v' w' h2 h3 h4 =>
    h v' w' h2 ((Below.refl _ _).grown h3 hbase fun k hk => (hown.lt k hk).1) h3 h4
end Go.Proofs.YtaicibmaogiibaaGreatDoor

