
/-
  The document's own answer for layer 1: the walks of Own, Bits, Number, Bytes.
-/
import Derived.Test.YtaekndhchdpobaaRxPlain
import Derived.Test.YtaekndhchdpobaaPxClone
set_option linter.unusedVariables false
set_option linter.unusedSimpArgs false
namespace Go.Proofs.Ytaekndhchdpobaa
open Go.RowKit

theorem int_info : (Try.prog.info? 3).map (fun i => (i.zero, i.size, i.bytes)) = some (some (.int .i64 0), 1, 8) := by kernel_rfl

/-- bits as cells -/
def nvs (l : List Nat) : List Value := l.map fun b : Nat => Value.int .i64 (b : Int)
theorem nvs_length (l : List Nat) : (nvs l).length = l.length := by simp [nvs]
theorem nvs_append (l m : List Nat) : nvs (l ++ m) = nvs l ++ nvs m := by simp [nvs]
theorem nvs_one (l : List Nat) : ∀ u ∈ nvs l, u.oneCell' = true := by
  intro u hu
  simp only [nvs, List.mem_map] at hu
  obtain ⟨b, _, rfl⟩ := hu
  rfl
theorem nvs_get (l : List Nat) (k : Nat) (h : k < l.length) : (nvs l)[k]? = some (.int .i64 (l[k] : Int)) := by simp [nvs, h]

/-- The value v is a slice that reads as the bits l, and lies below block B. -/
def Ns (w : World) (B : Nat) (v : Value) (l : List Nat) : Prop := ∃ A c, v = .slice A l.length c ∧ l.length ≤ c ∧ Rd w B A (nvs l)
theorem Ns.of_own {w : World} {v : Value} {l : List Nat} {base n : Nat} {e : TypeId} (h : w.ownsRow base e 1 v n (nvs l)) : Ns w w.heap.size v l := by
  have hn : l.length = n := by have := h.1; simpa [nvs] using this
  subst hn
  obtain ⟨A, c, rfl, hc, _⟩ := own_slice h
  exact ⟨A, c, rfl, hc, Rd.of_own h⟩
theorem Ns.on {w w' : World} {v : Value} {l : List Nat} (h : Ns w w.heap.size v l) (hb : Below w.heap.size w w') : Ns w' w'.heap.size v l := by
  obtain ⟨A, c, e, hc, hr⟩ := h
  exact ⟨A, c, e, hc, (hr.below hb (Nat.le_refl _)).mono hb.size⟩

end Go.Proofs.Ytaekndhchdpobaa
