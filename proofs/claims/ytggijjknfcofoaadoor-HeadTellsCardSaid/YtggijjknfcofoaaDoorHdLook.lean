
/-
  Layer 10: the walks of Check and of the chapter's rows.
-/
import Derived.Test.YtggijjknfcofoaaDoorHdMem
set_option linter.unusedVariables false
set_option linter.unusedSimpArgs false
namespace Go.Proofs.YtggijjknfcofoaaDoor.Hd
open Go.RowKit

theorem hret_int {k : IntKind} {a b : Int} (h : a = b) : Ending.returned (.int k a) = .returned (.int k b) := by rw [h]
theorem check_any (v : Value) (l : List UInt8) (B : Nat) (k n : Int) (w : World) (h : Bs w B v l) (hB : B ≤ w.heap.size) (hm : l.length ≤ 140737488355328) (ht : Crc.Tab w) (q : Nat) (hq : checkN l k n = q) :
    Calls Tryd.prog 26 #[v, .int .i64 k, .int .u32 n] w fun e w' => e = .returned (.int .i64 q) ∧ Below w.heap.size w w' := by
  obtain ⟨⟨K, I, E⟩, hg⟩ : ∃ p, getQ l = p := ⟨_, rfl⟩
  have hget := get_any v l B w h hB hm ht (K, I, E) hg
  unfold checkN at hq
  rw [hg] at hq
  simp only at hq hget
  obtain ⟨A, c, rfl, _, _⟩ := h
  have HQ := Lib.hid hq
  clear hq hg
  by_cases hE : E = 0
  · subst hE
    by_cases hk : (K : Int) = k
    · have e1 : ((K : Int) == k) = true := by simp [hk]
      by_cases hn : (I : Int) = n
      · have e2 : ((I : Int) == n) = true := by simp [hn]
        have H := Lib.hid (show q = 0 by rw [← HQ.out, if_pos rfl, if_pos ⟨hk, hn⟩])
        subst hk hn
        go_enter Tryd.func26, Tryd.ntmps26
        go_wp2_with fail
        refine hget.mono ?_
        rintro e w1 ⟨rfl, hb⟩
        go_wp2_with fail
        go_ret
        exact ⟨hret_int (by rw [H.out]; rfl), hb⟩
      · have e2 : ((I : Int) == n) = false := by simp [hn]
        have H := Lib.hid (show q = 23 by rw [← HQ.out, if_pos rfl, if_neg (fun h => hn h.2)])
        subst hk
        clear hn
        go_enter Tryd.func26, Tryd.ntmps26
        go_wp2_with fail
        refine hget.mono ?_
        rintro e w1 ⟨rfl, hb⟩
        go_wp2_with fail
        go_ret
        exact ⟨hret_int (by rw [H.out]; rfl), hb⟩
    · have e1 : ((K : Int) == k) = false := by simp [hk]
      have H := Lib.hid (show q = 23 by rw [← HQ.out, if_pos rfl, if_neg (fun h => hk h.1)])
      clear hk
      go_enter Tryd.func26, Tryd.ntmps26
      go_wp2_with fail
      refine hget.mono ?_
      rintro e w1 ⟨rfl, hb⟩
      go_wp2_with fail
      go_ret
      exact ⟨hret_int (by rw [H.out]; rfl), hb⟩
  · have e1 : ((E : Int) == 0) = false := by simp [hE]
    have H := Lib.hid (show q = E by rw [← HQ.out, if_neg hE])
    clear hE
    go_enter Tryd.func26, Tryd.ntmps26
    go_wp2_with fail
    refine hget.mono ?_
    rintro e w1 ⟨rfl, hb⟩
    go_wp2_with fail
    go_ret
    exact ⟨hret_int (by rw [H.out]), hb⟩
end Go.Proofs.YtggijjknfcofoaaDoor.Hd
