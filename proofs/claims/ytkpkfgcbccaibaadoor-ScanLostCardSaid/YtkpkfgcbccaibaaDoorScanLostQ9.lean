/-
  ScanLost, part 9 of what the law's proof leans on: HdLook, HdRef, OrdR.
-/
import Derived.Test.YtkpkfgcbccaibaaDoorScanLostQ8
import Derived.Deep.OwnRows
import Derived.Test.YtkpkfgcbccaibaaDoorScanLostQ2
import Derived.Test.YtkpkfgcbccaibaaDoorScanLostQ7
import Derived.RangeFuncCalls
import Derived.RangeFuncNested
import Derived.OrdersIn
import Derived.TacticsIn
import Derived.Test.YtkpkfgcbccaibaaDoorScanLostQ1
/- HdLook -/

/-
  Layer 10: the walks of Check and of the chapter's rows.
-/
set_option linter.unusedVariables false
set_option linter.unusedSimpArgs false
namespace Go.Proofs.YtkpkfgcbccaibaaDoor.Hd
open Go.RowKit

theorem hret_int {k : IntKind} {a b : Int} (h : a = b) : Ending.returned (.int k a) = .returned (.int k b) := by rw [h]
theorem check_any (v : Value) (l : List UInt8) (B : Nat) (k n : Int) (w : World) (h : Bs w B v l) (hB : B ≤ w.heap.size) (hm : l.length ≤ 140737488355328) (ht : Crc.Tab w) (q : Nat) (hq : checkN l k n = q) :
    Calls Tryd.prog 17 #[v, .int .i64 k, .int .u32 n] w fun e w' => e = .returned (.int .i64 q) ∧ Below w.heap.size w w' := by
  obtain ⟨⟨K, I, E⟩, hg⟩ : ∃ p, getQ l = p := ⟨_, rfl⟩
  have hget := get_any v l B w h hB hm ht (K, I, E) hg
  unfold checkN at hq
  rw [hg] at hq
  simp only at hq hget
  obtain ⟨A, c, rfl, _, _⟩ := h
  have HQ := Lib.hid hq
  clear hq hg
  by_cases hE : E = 0
  · subst hE
    by_cases hk : (K : Int) = k
    · have e1 : ((K : Int) == k) = true := by simp [hk]
      by_cases hn : (I : Int) = n
      · have e2 : ((I : Int) == n) = true := by simp [hn]
        have H := Lib.hid (show q = 0 by rw [← HQ.out, if_pos rfl, if_pos ⟨hk, hn⟩])
        subst hk hn
        go_enter Tryd.func17, Tryd.ntmps17
        go_wp2_with fail
        refine hget.mono ?_
        rintro e w1 ⟨rfl, hb⟩
        go_wp2_with fail
        go_ret
        exact ⟨hret_int (by rw [H.out]; rfl), hb⟩
      · have e2 : ((I : Int) == n) = false := by simp [hn]
        have H := Lib.hid (show q = 23 by rw [← HQ.out, if_pos rfl, if_neg (fun h => hn h.2)])
        subst hk
        clear hn
        go_enter Tryd.func17, Tryd.ntmps17
        go_wp2_with fail
        refine hget.mono ?_
        rintro e w1 ⟨rfl, hb⟩
        go_wp2_with fail
        go_ret
        exact ⟨hret_int (by rw [H.out]; rfl), hb⟩
    · have e1 : ((K : Int) == k) = false := by simp [hk]
      have H := Lib.hid (show q = 23 by rw [← HQ.out, if_pos rfl, if_neg (fun h => hk h.1)])
      clear hk
      go_enter Tryd.func17, Tryd.ntmps17
      go_wp2_with fail
      refine hget.mono ?_
      rintro e w1 ⟨rfl, hb⟩
      go_wp2_with fail
      go_ret
      exact ⟨hret_int (by rw [H.out]; rfl), hb⟩
  · have e1 : ((E : Int) == 0) = false := by simp [hE]
    have H := Lib.hid (show q = E by rw [← HQ.out, if_neg hE])
    clear hE
    go_enter Tryd.func17, Tryd.ntmps17
    go_wp2_with fail
    refine hget.mono ?_
    rintro e w1 ⟨rfl, hb⟩
    go_wp2_with fail
    go_ret
    exact ⟨hret_int (by rw [H.out]), hb⟩
end Go.Proofs.YtkpkfgcbccaibaaDoor.Hd

/- HdRef -/

/-
  Layer 10, the document's answer: the walks of Put, Get, Check.
-/
set_option linter.unusedVariables false
set_option linter.unusedSimpArgs false
namespace Go.Proofs.YtkpkfgcbccaibaaDoor.Hd
open Go.RowKit

/-- append to a row that has no room left, whoever holds it: the result is new -/
theorem wpList_append_full {P : Program} (w : World) {ops : Array Oper} {rest : List Oper} {o : Oper} {a : Act} {Q : Exit → Act → World → Prop} (hgd : o.guard = none) (s x : Operand) (t : TypeId)
    (ho : o.op = .call { callee := .builtin .append, args := #[s, x], argTypes := #[t, t] })
    (e : TypeId) (i : TypeInfo) (z : Value) (ht : P.underlying t = some (.slice e)) (hi : P.info? e = some i) (hz : i.zero = some z)
    (hsize : i.size = 1) (hby : i.bytes = 1) (hzs : z.cells.size = 1)
    (b : Addr) (n cap : Nat) (xs : List Value) (hs : a.eval s = .slice (some b) n cap) (hlo : xs.length = n) (holds : ∀ j v, xs[j]? = some v → w.cell? (b.add j) = some v)
    (ad : Addr) (m c : Nat) (news : List Value) (hx : a.eval x = .slice (some ad) m c) (hl : news.length = m) (hnews : ∀ j v, news[j]? = some v → w.cell? (ad.add j) = some v)
    (hg : cap < n + m) (h63 : n + m ≤ maxLen) (hbytes : (n + m) * 1 ≤ 140737488355328)
    (h : ∀ v' w', w'.ownsRow w.heap.size e 1 v' (n + m) (xs ++ news) → Below w.heap.size w w' → wpList P ops Q rest (a.put o.dst v') w') : wpList P ops Q (o :: rest) a w := by
  have hr := run_append_grow (P := P) w t o.type e i z ht hi hz b n cap xs (by rw [hsize, Nat.mul_one]; exact hlo) holds ad m c news (by rw [hsize, Nat.mul_one]; exact hl) hnews hg (by simp only [maxLen] at h63; omega) (by rw [hby]; exact growslice_fits (by omega) hbytes)
  refine wpList_plain hgd fun K hK => ?_
  unfold Oper.wp execOp
  simp only [ho, resolve, invoke, builtin, Sem.run_bind, Sem.run_pure, Result.andThen_ok, List.map_toArray, List.map_cons, List.map_nil, hs, hx, hr]
  refine hK _ _ (h _ _ ?_ ?_)
  · have hge := grownCap_ge w (n + m) cap e
    have hcm : grownCap w (n + m) cap e ≤ maxLen := grownCap_le_maxLen w (n + m) cap e h63
    refine ⟨by rw [List.length_append, hlo, hl, Nat.mul_one], .inr ⟨w.heap.size, _, _, rfl, Nat.le_refl _, heap_alloc_new w.drew _, hge, hcm, ?_, ?_⟩⟩
    · simp only [Array.size_append, List.size_toArray, size_zeroCells, hzs, hlo, hl]
      omega
    · simp only [Array.toList_append, List.append_assoc]
      rw [← List.append_assoc, Nat.mul_one, show n + m = (xs ++ news).length by rw [List.length_append, hlo, hl]]
      exact List.take_left
  · exact (below_drewN (Below.refl _ _) 1).alloc (Nat.le_refl _) _

theorem rd_cells {w : World} {B b o : Nat} {xs : List Value} (h : Rd w B (some ⟨b, o, none⟩) xs) : ∀ j v, xs[j]? = some v → w.cell? ((⟨b, o, none⟩ : Addr).add j) = some v := by
  intro j v hv
  obtain ⟨b', o', e, _, hc⟩ := h (by intro e; subst e; simp at hv)
  injection e with e
  injection e with e1 e2
  subst e1 e2
  rw [Addr.add_mid]
  exact hc j v hv
/-- the seven letters and the five bytes, in two new blocks -/
theorem lit_cells (w : World) (ds : List UInt8) : (∀ j v, (bvs letters)[j]? = some v → ((w.alloc (.cells #[.int .u8 104, .int .u8 111, .int .u8 117, .int .u8 114, .int .u8 98, .int .u8 107, .int .u8 49] 5 (7, 8))).alloc (.cells (bvs ds).toArray 5)).cell? ((⟨w.heap.size, 0, none⟩ : Addr).add j) = some v) ∧
    (∀ j v, (bvs ds)[j]? = some v → ((w.alloc (.cells #[.int .u8 104, .int .u8 111, .int .u8 117, .int .u8 114, .int .u8 98, .int .u8 107, .int .u8 49] 5 (7, 8))).alloc (.cells (bvs ds).toArray 5)).cell? ((⟨w.heap.size + 1, 0, none⟩ : Addr).add j) = some v) := by
  constructor
  · obtain ⟨A, c, e, _, hr⟩ := bs_newM w letters 5 (7, 8)
    injection e with e1 e2 e3
    subst e1
    exact rd_cells (hr.alloc (by simp) _)
  · intro j v hv
    obtain ⟨A, c, e, _, hr⟩ := Bs.new (w.alloc (.cells #[.int .u8 104, .int .u8 111, .int .u8 117, .int .u8 114, .int .u8 98, .int .u8 107, .int .u8 49] 5 (7, 8))) ds 5
    injection e with e1 e2 e3
    subst e1
    have := rd_cells hr j v hv
    rw [World.size_alloc] at this
    exact this
set_option maxRecDepth 100000 in
set_option maxHeartbeats 4000000 in
theorem rput_one (n : Nat) (hn0 : ¬ n = 0) (hn1 : n ≤ 16777215) (w : World) : Calls Tryd.prog 28 #[.int .i64 1, .int .u32 (n : Int)] w fun e w' => ∃ v, e = .returned (.tuple #[v, .int .i64 0]) ∧ w'.ownsRow w.heap.size 5 1 v 16 (bvs (headL 1 n)) ∧ Below w.heap.size w w' := by
  obtain ⟨i0, hi0, hz0, hz1, hz2⟩ := info_parts byte_info
  have kc := fun (w : World) (C : Array Value) (n c : Nat) => Lib.run_convert_bytes_const (P := Tryd.prog) w 23 5 C n c Tryd.underlying23 Tryd.underlying5
  obtain ⟨c0, h0⟩ : ∃ c, Px.dg n 0 = c := ⟨_, rfl⟩
  obtain ⟨c1, h1⟩ : ∃ c, Px.dg n 1 = c := ⟨_, rfl⟩
  obtain ⟨c2, h2⟩ : ∃ c, Px.dg n 2 = c := ⟨_, rfl⟩
  obtain ⟨c3, h3⟩ : ∃ c, Px.dg n 3 = c := ⟨_, rfl⟩
  have g0 : (n : Int) % 256 = (c0.toNat : Int) := by rw [← h0, Px.dg_toNat]; simp
  have g1 : (n : Int) / 256 % 256 = (c1.toNat : Int) := by rw [← h1, Px.dg_toNat]; simp
  have g2 : (n : Int) / 65536 % 256 = (c2.toNat : Int) := by rw [← h2, Px.dg_toNat]; simp
  have g3 : (n : Int) / 16777216 = (c3.toNat : Int) := by rw [← h3, Px.dg_toNat]; simp; omega
  have e1 : ((n : Int) == 0) = false := by simp; omega
  have e2 : ¬ (16777215 : Int) < (n : Int) := by omega
  have HD : Hid (bodyL 1 n = letters ++ [1, c0, c1, c2, c3]) := Lib.hid (by rw [← h0, ← h1, ← h2, ← h3]; rfl)
  clear h0 h1 h2 h3
  have hlc := Lib.hid (lit_cells w [1, c0, c1, c2, c3])
  have b0 := hbnew w (.cells #[.int .u8 104, .int .u8 111, .int .u8 117, .int .u8 114, .int .u8 98, .int .u8 107, .int .u8 49] 5 (7, 8))
  have B1 := Lib.hid (b0.alloc (by simp) (.cells (bvs [1, c0, c1, c2, c3]).toArray 5))
  clear b0
  go_enter Tryd.func28, Tryd.ntmps28
  go_wp2_with (at_builtin; (refine wpList_append_full _ rfl _ _ 23 rfl 5 i0 (.int .u8 0) Tryd.underlying23 hi0 hz0 hz1 hz2 rfl ⟨w.heap.size, 0, none⟩ 7 7 (bvs letters) rfl rfl hlc.out.1 ⟨w.heap.size + 1, 0, none⟩ 5 5 (bvs [1, c0, c1, c2, c3]) rfl rfl hlc.out.2 (by omega) (by unfold maxLen; omega) (by omega) ?_); intro v2 w2 hown2 hb2)
  rw [← bvs_append] at hown2
  have B2 := Lib.hid (B1.out.trans (hb2.mono B1.out.size))
  have O2 : Hid (Bs w2 w2.heap.size v2 (bodyL 1 n)) := Lib.hid (by have := Bs.of_own hown2; rw [HD.out]; exact this)
  clear hown2 hb2
  obtain ⟨A2, c2, rfl, hc2, hr2⟩ := id O2.out
  have hcv := Crc.rcover_any A2 (bodyL 1 n) c2 w2 hr2 (by rw [bodyL_length]; omega)
  rw [bodyL_length] at hcv ⊢
  clear hr2
  refine hcv.mono ?_
  rintro e w4 ⟨v4, rfl, hown4, hb4⟩
  have O4 := Lib.hid (own_base hown4 B2.out.size)
  have B4 := Lib.hid (hbstep B2.out hb4)
  clear hb4 hown4
  go_wp2_with fail
  go_ret2
  exact ⟨v4, rfl, O4.out, B4.out⟩
end Go.Proofs.YtkpkfgcbccaibaaDoor.Hd

/- OrdR -/

/-
  A region that draws its order, in a round of a loop over an iterator: what the plain laws tell of it holds there too (it defers nothing).
-/
set_option linter.unusedVariables false
set_option linter.unusedSimpArgs false
namespace Go.Proofs.YtkpkfgcbccaibaaDoor.OrdR
open Go

/-- Q where it goes on, else 'False' -/
def OnlyN (Q : Exit → Act → World → Prop) : Exit → Act → World → Prop
  | .normal, a, w => Q .normal a w
  | _, _, _ => False
theorem OnlyN.normal {Q : Exit → Act → World → Prop} {a : Act} {w : World} (h : Q .normal a w) : OnlyN Q .normal a w := h
theorem OnlyN.lets {Q : Exit → Act → World → Prop} (h : LetsOut (OnlyN Q)) : False := by obtain ⟨a, w, h⟩ := h; exact h
def noDefer (ops : Array Oper) : Bool := ops.all fun o => match o.op with | .defer _ => false | _ => true
theorem noDefer_spec {ops : Array Oper} (h : noDefer ops = true) {i : Nat} {o : Oper} (ho : ops[i]? = some o) : ∀ c, o.op ≠ .defer c := by
  intro c e
  unfold noDefer at h
  rw [Array.all_eq_true] at h
  obtain ⟨hi, hh⟩ := Array.getElem?_eq_some_iff.1 ho
  have := h i hi
  rw [hh, e] at this
  cases this
theorem rows_in {P : Program} {row : String} {args : Array Value} {w : World} {R : Value → World → Prop} {n l : Nat} (h : Rows P row args w R) : RowsIn (Fence.wide.inRound l) n P row args w R := fun c cs _ => by
  obtain ⟨v, w', r, s⟩ := h c cs
  exact ⟨v, w', r, by rw [fenced_inRound]; exact stepsIn_wide.2 s⟩
section
variable {P : Program} {ops : Array Oper} {Q : Exit → Act → World → Prop} {md : Region.Mode}
theorem upon_in {o : Oper} {a : Act} {K : Act → World → Prop} {n l : Nat} : ∀ r : Result Next, o.upon P a K (OnlyN Q) r → o.uponIn (Fence.wide.inRound l) n P a K Q r := by
  intro r h
  have hd : ¬ ((Fence.wide.inRound l).depth.isSome = true) := by simp [Fence.wide]
  unfold Oper.upon at h
  unfold Oper.uponIn
  split at h
  · exact h
  · exact h
  · exact h
  · refine ⟨fun hh => absurd hh hd, (CallsIn.inRound l (callsIn_wide.2 h)).mono fun e w' hh => ?_⟩
    cases e with
    | returned v => exact hh
    | panicked c => exact (hh : False).elim
    | outgrown => exact (OnlyN.lets hh).elim
  · exact ⟨fun hh => absurd hh hd, rows_in h⟩
  · exact (h : False).elim
  · exact h.elim
theorem any_in (hnd : noDefer ops = true) {n l : Nat} : ∀ (f : Nat) (li : Array Bool) (a : Act) (w : World), wpAny P md ops (OnlyN Q) f li a w → wpAnyIn (Fence.wide.inRound l) n P md ops Q f li a w := by
  intro f
  induction f with
  | zero => intro li a w h; exact ⟨h.1, h.2⟩
  | succ f ih =>
    intro li a w h
    refine ⟨fun hr => h.1 hr, fun i hi => ?_⟩
    have h1 := h.2 i hi
    unfold wpOp at h1
    unfold wpOpIn
    cases ho : ops[i]? with
    | none => rw [ho] at h1; exact ih _ _ _ h1
    | some o =>
      rw [ho] at h1
      simp only at h1 ⊢
      split at h1
      · rename_i hw
        rw [if_pos hw]
        rcases h1 with h1 | h1
        · refine ⟨fun _ _ => trivial, ?_⟩
          rw [Fence.inRound_round, Oper.semAt_some _ _ _ (noDefer_spec hnd ho)]
          have h2 : o.wp P a w (wpAnyIn (Fence.wide.inRound l) n P md ops Q f (li.setIfInBounds i true)) (OnlyN Q) := Oper.wp_mono (fun a w hh => ih _ a w hh) h1
          exact upon_in _ h2
        · exact (OnlyN.lets h1.2).elim
      · rename_i hw
        rw [if_neg hw]
        exact ⟨fun _ _ => trivial, ih _ _ _ h1⟩
theorem region_in {id n l : Nat} {a : Act} {w : World} (hm : P.follows .mixedOrders = true) (hnd : noDefer ops = true) (S : World → Prop) (t : Nat)
    (h : OrdL.wpL P .any ops (OnlyN Q) S t ops.size (Array.replicate ops.size false) a w.drew) : (Code.region id ops true).wpIn (Fence.wide.inRound l) n P Q a w :=
  wpIn_region_any hm (any_in hnd _ _ _ _ (OrdL.wpL_any _ _ _ _ h))
end
end Go.Proofs.YtkpkfgcbccaibaaDoor.OrdR

