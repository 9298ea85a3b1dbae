
/-
  Layer 8: blocks of bytes.
-/
import Derived.Test.YtmiljicohnfejaaDoorRcRead
import Derived.Deep.OwnRows
set_option linter.unusedVariables false
set_option linter.unusedSimpArgs false
namespace Go.Proofs.YtmiljicohnfejaaDoor
open Go.RowKit

/-- a new row of zeros -/
def zer (n : Nat) : Array Value := (bvs (List.replicate n 0)).toArray
theorem run_make_b (k1 k2 : IntKind) (n : Nat) (hn : n ≤ 100000) (w : World) :
    (Instr.makeSlice 23 (.int k1 (n : Int)) (.int k2 (n : Int))).run Tryd.prog w = .ok (.slice (some ⟨w.heap.size, 0, none⟩) n n) (w.alloc (.cells (zer n) 5)) := by
  have h := run_make_row' (P := Tryd.prog) 23 5 (.int .u8 0) 1 Tryd.underlying23 byte_info rfl k1 k2 n (by omega) (by omega) w
  have e : madeCells #[Value.int .u8 0] n = zer n := by
    unfold zer
    have := toList_madeCells_one (.int .u8 0) n
    rw [← Array.toList_inj, this]
    simp [bvs, bv]
  rw [e] at h
  exact h
/-- a block of bytes -/
def RowAt (w : World) (g : Nat) (l : List UInt8) : Prop := w.heap[g]? = some (.cells (bvs l).toArray 5 (0, 0))
theorem RowAt.bs {w : World} {g B : Nat} {l : List UInt8} (h : RowAt w g l) (hg : g < B) : Bs w B (.slice (some ⟨g, 0, none⟩) l.length l.length) l :=
  ⟨_, _, rfl, Nat.le_refl _, fun _ => ⟨g, 0, rfl, hg, fun j u hu => by
    rw [Nat.zero_add, cell_of_row w g j _ _ _ h]
    simpa using hu⟩⟩
theorem RowAt.below {w w' : World} {g C : Nat} {l : List UInt8} (h : RowAt w g l) (hb : Below C w w') (hC : g < C) : RowAt w' g l := (hb.block g hC).trans h
theorem RowAt.lt {w : World} {g : Nat} {l : List UInt8} (h : RowAt w g l) : g < w.heap.size := (Array.getElem?_eq_some_iff.1 h).1
theorem RowAt.on {w w' : World} {g : Nat} {l : List UInt8} (h : RowAt w g l) (hb : Below w.heap.size w w') : RowAt w' g l := h.below hb h.lt
theorem RowAt.new (w : World) (n : Nat) : RowAt (w.alloc (.cells (zer n) 5)) w.heap.size (List.replicate n 0) := heap_alloc_new w _
end Go.Proofs.YtmiljicohnfejaaDoor
