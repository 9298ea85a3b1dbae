
/-
  Layer 14 (probe): Set, Remove.
-/
import Derived.Test.YtffcbekogpgciaaPrTab
set_option linter.unusedVariables false
set_option linter.unusedSimpArgs false
namespace Go.Proofs.Ytffcbekogpgciaa.Pr
open Go Go.RowKit

theorem SlotsAt.num {w : World} {S c : Nat} {R : Nat → Prop} {sl : List (Option E)} (h : SlotsAt w S c R sl) {p : Nat} {e : E} (hp : sl[p]? = some (some e)) (v : Nat) :
    SlotsAt (w.setCell ⟨S, p * 4 + 2, none⟩ (.int .u64 (v : Int))) S c R (sl.set p (some { e with n := v })) := by
  obtain ⟨⟨arr, h0, h1, h2⟩, h3, h4, h5⟩ := h
  obtain ⟨hpl, _⟩ := List.getElem?_eq_some_iff.1 hp
  have hps : p * 4 + 4 ≤ arr.size := by rw [h1]; omega
  have hch : Chg (fun i => i = S) w (w.setCell ⟨S, p * 4 + 2, none⟩ (.int .u64 (v : Int))) := (Chg.refl (M := fun i => i = S)).setCell (p := ⟨S, p * 4 + 2, none⟩) rfl _
  have hM : ∀ i, i = S → ¬ R i := fun i hi => by rw [hi]; exact h5
  have ho : ∀ j, j ≠ p * 4 + 2 → (arr.setIfInBounds (p * 4 + 2) (.int .u64 (v : Int)))[j]? = arr[j]? := fun j hj => Array.getElem?_setIfInBounds_ne (fun c => hj c.symm)
  refine ⟨⟨_, set1p h0 _, by simpa using h1, fun i o hi => ?_⟩, by simpa using h3, h4, h5⟩
  rw [List.getElem?_set] at hi
  split at hi
  · rename_i hip
    subst hip
    injection hi with hi
    subst hi
    obtain ⟨A, ck, k0, k1, k2, k3, k4, k5⟩ := h2 p _ hp
    exact ⟨A, ck, by rw [ho _ (by omega)]; exact k0, by rw [ho _ (by omega)]; exact k1, by simp [Array.getElem?_setIfInBounds]; omega, by rw [ho _ (by omega)]; exact k3, k4, k5.chg hch hM⟩
  · rename_i hip
    have hs := (h2 i o hi).chg hch hM
    cases o with
    | none => obtain ⟨k0, k1, k2, k3⟩ := hs; exact ⟨by rw [ho _ (by omega)]; exact k0, by rw [ho _ (by omega)]; exact k1, by rw [ho _ (by omega)]; exact k2, by rw [ho _ (by omega)]; exact k3⟩
    | some x => obtain ⟨A, ck, k0, k1, k2, k3, k4⟩ := hs; exact ⟨A, ck, by rw [ho _ (by omega)]; exact k0, by rw [ho _ (by omega)]; exact k1, by rw [ho _ (by omega)]; exact k2, by rw [ho _ (by omega)]; exact k3, k4⟩
/-- a pair among what is told, as a slot -/
theorem PT.Ok.slot_key {s : PT} (h : s.Ok) (i : Nat) (e : E) (hi : s.sl[i]? = some (some e)) : 0 < e.key.length ∧ e.key.length ≤ 64 := by
  obtain ⟨hl, he⟩ := List.getElem?_eq_some_iff.1 hi
  exact h.keys _ (mem_of_at (i := i) (by rw [at_lt hl]; exact he))
/-- a table, its pairs replaced by others -/
theorem PT.ok_of {seed : Nat} {sl : List (Option E)} {A : List (List UInt8 × Nat)} (hs : seed < 18446744073709551616) (L : Lay (fun k => Ky.hash seed k % sl.length) sl) (hp : List.Perm (kn sl) A) (hl : sl.length = room A.length) (hd : (A.map (·.1)).Nodup)
    (hk : ∀ p ∈ A, 0 < p.1.length ∧ p.1.length ≤ 64) (hn : ∀ p ∈ A, p.2 < 18446744073709551616) (hf : A.length < 1000000) : (⟨seed, sl⟩ : PT).Ok :=
  ⟨hs, L, by show sl.length = room (kn sl).length; rw [hp.length_eq]; exact hl, ((hp.map _).nodup_iff).2 hd, fun p h => hk p (hp.mem_iff.1 h), fun p h => hn p (hp.mem_iff.1 h), by show (kn sl).length < _; rw [hp.length_eq]; exact hf⟩

/-- bytes in a block that did not change -/
theorem Bs.keepM {N : Nat → Prop} {w w' : World} {v : Value} {l : List UInt8} (h : Bs w w.heap.size v l) (hc : Chg N w w') (hN : ∀ b, v.ownBlock = some b → ¬ N b) : Bs w' w'.heap.size v l := by
  obtain ⟨A, c, rfl, hle, hr⟩ := h
  refine ⟨A, c, rfl, hle, fun hx => ?_⟩
  obtain ⟨b, o, rfl, hb, hcell⟩ := hr hx
  exact ⟨b, o, rfl, Nat.lt_of_lt_of_le hb hc.size, fun j u hu => (hc.cell (p := ⟨b, o + j, none⟩) hb (hN b rfl)).trans (hcell j u hu)⟩
theorem set_nil (v n : Value) (w : World) :
    Calls Try.prog 9 #[.pointer none, v, n] w fun e w' => e = .returned (.int .i64 2) ∧ w = w' := by
  go_enter Try.func9, Try.ntmps9
  go_wp2_with fail
  refine (mayT_nil _ _).mono ?_
  rintro e w1 ⟨rfl, rfl⟩
  go_wp2
  go_ret
  exact ⟨rfl, rfl⟩
theorem set_no (T : Nat) (M R : Nat → Prop) (s : PT) (w : World) (h : TabM w T M R s) (kv : Value) (k : List UInt8) (hk : Bs w w.heap.size kv k) (hl : k.length = 0 ∨ 64 < k.length) (hkl : k.length < 1000000) (v : Nat) :
    Calls Try.prog 9 #[.pointer (some ⟨T, 0, none⟩), kv, .int .u64 (v : Int)] w fun e w' => e = .returned (.int .i64 1) ∧ w = w' := by
  obtain ⟨ho, h1, h2, h3, S, c, h4, h5, h6⟩ := h
  have HL := Lib.hid hl
  clear hl
  go_enter Try.func9, Try.ntmps9
  go_wp2_with fail
  refine (mayT_no T S c _ _ _ _ h4.cells _ k _ hk HL.out (by omega)).mono ?_
  rintro e w1 ⟨rfl, rfl⟩
  go_wp2
  go_ret
  exact ⟨rfl, rfl⟩
set_option maxRecDepth 100000 in
set_option maxHeartbeats 8000000 in
theorem set_yes (T : Nat) (M R : Nat → Prop) (s : PT) (w : World) (h : TabM w T M R s) (kv : Value) (k : List UInt8) (hk : Bs w w.heap.size kv k) (hl0 : 0 < k.length) (hl1 : k.length ≤ 64) (v : Nat) (hv : v < 18446744073709551616) (hfew : s.prs.length < 900000) (hka : ∀ b, kv.ownBlock = some b → ¬ M b) :
    Calls Try.prog 9 #[.pointer (some ⟨T, 0, none⟩), kv, .int .u64 (v : Int)] w fun e w' => e = .returned (.int .i64 0) ∧ ∃ s', s'.seed = s.seed ∧ List.Perm s'.prs ((k, v) :: remA s.prs k) ∧ PMut w w' T M R s' := by
  obtain ⟨ho, h1, h2, h3, S, c, h4, h5, h6⟩ := h
  have HO := Lib.hid ho
  have HT := Lib.hid h4
  have HK := Lib.hid hk
  have HMR := Lib.hid (And.intro h1 (And.intro h2 (And.intro h3 (And.intro h5 h6))))
  clear ho h4 hk h1 h2 h3 h5 h6
  go_enter Try.func9, Try.ntmps9
  go_wp2_with fail
  refine (mayT_yes T S c _ _ _ _ HT.out.cells _ k _ HK.out hl0 hl1).mono ?_
  rintro e w1 ⟨rfl, rfl⟩
  go_wp2_with fail
  refine (find_b T S c R s.seed _ s.sl _ HT.out HO.out.seed (by have := HO.out.l9; omega) (by have := HO.out.l8; omega) HO.out.emp HO.out.lay _ k HK.out (by omega)).mono ?_
  rintro e w2 ⟨⟨at', b, rfl, hf⟩, hb2⟩
  have HB := Lib.hid hb2
  have HT2 := Lib.hid (HT.out.on hb2)
  clear hb2
  rcases hf with ⟨rfl, hat, e, he, rfl⟩ | ⟨rfl, rfl, hno⟩
  · have hg : s.sl[at']? = some (some e) := by rw [at_lt hat] at he; rw [List.getElem?_eq_getElem hat, he]
    obtain ⟨A, ck, k0, k1, k2, k3, _⟩ := HT2.out.slots.used hg
    have hc1 := HT2.out.cells.c1
    have hf2 := HT2.out.slots.free (at' * 4 + 2)
    have ja : (at' : Int) < (s.sl.length : Int) := by omega
    have HE := Lib.hid he
    have HG := Lib.hid hg
    clear he hg
    go_wp2
    go_ret
    have hmem := mem_of_at HE.out
    have hsp := remA_split HO.out.once hmem
    have hset := kn_set (sl := s.sl) at' (some { e with n := v }) hat
    rw [show s.sl[at'] = some e by rw [← at_lt hat]; exact HE.out, pr1_some, pr1_some] at hset
    have hset2 : List.Perm (kn (s.sl.set at' (some { e with n := v }))) ((e.key, v) :: remA s.prs e.key) := by
      have h1 : List.Perm ((e.key, e.n) :: kn (s.sl.set at' (some { e with n := v }))) ((e.key, e.n) :: (e.key, v) :: remA s.prs e.key) := hset.trans ((hsp.cons (e.key, v)).trans (List.Perm.swap _ _ _))
      exact (List.perm_cons _).1 h1
    have hch : Chg (fun i => i = S) w2 (w2.setCell ⟨S, at' * 4 + 2, none⟩ (.int .u64 (v : Int))) := (Chg.refl (M := fun i => i = S)).setCell (p := ⟨S, at' * 4 + 2, none⟩) rfl _
    have hlen : ((e.key, v) :: remA s.prs e.key).length = s.prs.length := by rw [hsp.length_eq]; rfl
    obtain ⟨m1, m2, m3, m4, m5⟩ := HMR.out
    have hok : (⟨s.seed, s.sl.set at' (some { e with n := v })⟩ : PT).Ok := by
      refine PT.ok_of HO.out.seed ?_ hset2 (by rw [List.length_set, hlen]; exact HO.out.len) (remA_nodup HO.out.once e.key v) ?_ ?_ (by rw [hlen]; exact HO.out.few)
      · have := HO.out.lay.number HE.out v
        rw [Nat.mod_eq_of_lt hat] at this
        rw [List.length_set]
        exact this
      · intro p hp
        rcases List.mem_cons.1 hp with rfl | hp
        · exact ⟨hl0, hl1⟩
        · exact HO.out.keys p (remA_mem.1 hp).1
      · intro p hp
        rcases List.mem_cons.1 hp with rfl | hp
        · exact hv
        · exact HO.out.nums p (remA_mem.1 hp).1
    refine ⟨rfl, ⟨s.seed, s.sl.set at' (some { e with n := v })⟩, rfl, hset2, M, R, ⟨hok, m1, fun i hi => by have := m2 i hi; have := HB.out.size; have := hch.size; omega, fun i hi => by have := m3 i hi; have := HB.out.size; have := hch.size; omega, S, c, ⟨?_, HT2.out.slots.num HG.out v, HT.out.ne, HT.out.outT⟩, m4, m5⟩, (Chg.of_below HB.out).trans hch (fun i e => .inl (e ▸ m5)), fun i hi => .inl hi, fun i hi => .inl hi⟩
    show TCells _ T S c s.seed (s.sl.set at' (some { e with n := v })).length (kn (s.sl.set at' (some { e with n := v }))).length
    rw [List.length_set, hset2.length_eq, hlen]
    exact HT2.out.cells.chg hch (fun e => HT.out.ne e)
  · have HN := Lib.hid hno
    clear hno
    have hc2 := HT2.out.cells.c2
    have hcf2 := HT2.out.cells.f2
    have jk : (s.prs.length : Int) < 900000 := by omega
    obtain ⟨W3, hW3⟩ : ∃ W3, w2.setCell ⟨T, 2, none⟩ (.int .i64 ((s.prs.length : Int) + 1)) = W3 := ⟨_, rfl⟩
    have hc3 : Chg (fun i => i = T) w2 W3 := by rw [← hW3]; exact (Chg.refl (M := fun i => i = T)).setCell (p := ⟨T, 2, none⟩) rfl _
    obtain ⟨m1, m2, m3, m4, m5⟩ := HMR.out
    have hTR : ∀ i, i = T → ¬ R i := fun i e c => HT.out.outT (e ▸ c)
    have HT3 : Hid (TabAt W3 T S c R s.seed (s.prs.length + 1) s.sl) := Lib.hid ⟨by
      rw [← hW3]
      exact HT2.out.cells.set2 (s.prs.length + 1), HT2.out.slots.chg hc3 hTR (fun e => HT.out.ne e.symm), HT.out.ne, HT.out.outT⟩
    have HG3 := Lib.hid ((Chg.of_below (M := fun i => i = T) HB.out).trans hc3 (fun i e => .inl e))
    have HR3 : Hid (∀ i, R i → i < W3.heap.size) := Lib.hid (fun i hi => by have := m3 i hi; have := HG3.out.size; omega)
    have HK3 : Hid (Bs W3 W3.heap.size kv k) := Lib.hid (Bs.keepM HK.out HG3.out (fun b hb c => hka b hb (by rw [c]; exact m4)))
    clear m1 m2 m3 m4 m5 hTR hc3
    go_wp2_with fail
    clear hc2 hcf2 hW3
    have hkl : ∀ (i : Nat) (e : E), s.sl[i]? = some (some e) → e.key.length < 1000000 := fun i e hi => by have := (HO.out.slot_key i e hi).2; omega
    refine (fit_b T S c R s.seed (s.prs.length + 1) s.sl W3 HT3.out HR3.out HO.out.seed (by have := HO.out.l9; omega) HO.out.l8 (by omega) HO.out.lay (Nat.le_succ _) hkl).mono ?_
    rintro e w4 ⟨rfl, S4, c4, sl4, hlay4, hlen4, hperm4, htab4, hch4, hS4⟩
    have HG4 := Lib.hid (HG3.out.trans hch4 (fun i e => .inl e))
    have HK4 : Hid (Bs w4 w4.heap.size kv k) := Lib.hid (Bs.keepM HK3.out hch4 (fun b hb c => hka b hb (by rw [c]; exact HMR.out.2.2.2.1)))
    have HT4 := Lib.hid htab4
    have HX4 := Lib.hid (And.intro hlay4 (And.intro hlen4 hperm4))
    have HS4 : Hid (M S4 ∨ w.heap.size ≤ S4) := Lib.hid (by
      rcases hS4 with e | e
      · exact .inl (by rw [e]; exact HMR.out.2.2.2.2)
      · exact .inr (Nat.le_trans HG3.out.size e))
    clear hlay4 hlen4 hperm4 htab4 hch4 hS4 hkl
    go_wp2_with fail
    refine (clone_b kv k w4 HK4.out (by omega)).mono ?_
    rintro e w5 ⟨r, rfl, hown, hb5⟩
    obtain ⟨g, cap, cur, rfl, hg, hcur, hncap, hcm, hcs, hct⟩ : ∃ g cap cur, r = .slice (some ⟨g, 0, none⟩) k.length cap ∧ w4.heap.size ≤ g ∧ w5.heap[g]? = some (.cells cur 5 (0, 0)) ∧ k.length ≤ cap ∧ cap ≤ maxLen ∧ cur.size = cap * 1 ∧ cur.toList.take (k.length * 1) = bvs k := by
      rcases hown.2 with ⟨_, h0⟩ | h
      · omega
      · exact h
    have hgl : g < w5.heap.size := (Array.getElem?_eq_some_iff.1 hcur).1
    have hkey : KeyR w5 (fun i => R i ∨ i = g) (some ⟨g, 0, none⟩) k := fun _ => ⟨g, 0, rfl, .inr rfl, fun j u hu => by
      have := hown.cells (g := g) rfl j u hu
      rw [add_none] at this
      exact this⟩
    have hS4lt := HT4.out.slots.lt
    have hT4lt := HT4.out.cells.lt
    have htab5 : TabAt w5 T S4 c4 (fun i => R i ∨ i = g) s.seed (s.prs.length + 1) sl4 := (HT4.out.on hb5).mono (fun i => .inl) (fun c => by
      rcases c with c | c
      · exact HT4.out.outT c
      · omega) (fun c => by
      rcases c with c | c
      · exact HT4.out.slots.out c
      · omega)
    have hR5 : ∀ i, (R i ∨ i = g) → i < w5.heap.size := fun i hi => by
      rcases hi with hi | hi
      · have := HR3.out i hi
        have := HG4.out.size
        have := hb5.size
        have := HMR.out.2.2.1 i hi
        omega
      · omega
    have HG5 := Lib.hid (HG4.out.trans (Chg.of_below (M := fun _ => False) hb5) (fun _ e => e.elim))
    obtain ⟨hlay4, hlen4, hperm4⟩ := HX4.out
    have hl4 : Lay (fun k => Ky.hash s.seed k % sl4.length) sl4 := by rw [hlen4]; exact hlay4
    have hrm := room_more (s.prs.length + 1)
    have hrl := room_le (s.prs.length + 1)
    have hE4 : Emp sl4 := emp_of (by rw [hperm4.length_eq, hlen4]; show s.prs.length < _; omega)
    have HLay := Lib.hid (lay_b T S4 c4 (fun i => R i ∨ i = g) s.seed (s.prs.length + 1) sl4 w5 htab5 hR5 HO.out.seed (by omega) (by have := room_ge (s.prs.length + 1); omega) hE4 hl4 (some ⟨g, 0, none⟩) cap k v 0 hncap hkey (by omega))
    have HGg : Hid (w4.heap.size ≤ g ∧ g < w5.heap.size) := Lib.hid ⟨hg, hgl⟩
    have HR5 := Lib.hid hR5
    clear hown hb5 hg hcur hncap hcm hcs hct hgl hkey hS4lt hT4lt htab5 hR5 hlay4 hlen4 hperm4 hl4 hrm hrl hE4
    go_wp2_with fail
    refine HLay.out.mono ?_
    rintro e w6 ⟨rfl, sl6, hto, htab6, hch6⟩
    have HTo := Lib.hid hto
    have HT6 := Lib.hid htab6
    have HC6 := Lib.hid hch6
    clear hto htab6 hch6 HLay
    go_wp2
    go_ret
    obtain ⟨hlay4, hlen4, hperm4⟩ := HX4.out
    obtain ⟨hlay6, hlen6, hperm6⟩ := HTo.out
    have hno : ∀ p ∈ s.prs, p.1 ≠ k := fun p hp e => by
      obtain ⟨i, x, _, h2, h3, _⟩ := mem_kn.1 (show (p.1, p.2) ∈ kn s.sl from hp)
      exact HN.out i x h2 (h3.trans e)
    have hp6 : List.Perm (kn sl6) ((k, v) :: remA s.prs k) := by
      rw [remA_none hno]
      exact hperm6.trans (hperm4.cons _)
    have hln : ((k, v) :: remA s.prs k).length = s.prs.length + 1 := by rw [remA_none hno]; rfl
    obtain ⟨m1, m2, m3, m4, m5⟩ := HMR.out
    have hok : (⟨s.seed, sl6⟩ : PT).Ok := by
      refine PT.ok_of HO.out.seed (by rw [hlen6]; exact hlay6) hp6 (by rw [hln, hlen6, hlen4]) (remA_nodup HO.out.once k v) ?_ ?_ (by rw [hln]; omega)
      · intro p hp
        rcases List.mem_cons.1 hp with rfl | hp
        · exact ⟨hl0, hl1⟩
        · exact HO.out.keys p (remA_mem.1 hp).1
      · intro p hp
        rcases List.mem_cons.1 hp with rfl | hp
        · exact hv
        · exact HO.out.nums p (remA_mem.1 hp).1
    have hgg := HGg.out
    have hs6 := HC6.out.size
    have hs5 := HG5.out.size
    have hs4 := HG4.out.size
    refine ⟨rfl, ⟨s.seed, sl6⟩, rfl, hp6, fun i => (M i ∨ i = S4), fun i => R i ∨ i = g, ⟨hok, ?_, ?_, fun i hi => by have := HR5.out i hi; omega, S4, c4, ?_, .inl m4, .inr rfl⟩, (HG5.out.mono (fun i e => e ▸ m4)).trans HC6.out (fun i e => e ▸ HS4.out), ?_, ?_⟩
    · rintro i hi hr
      rcases hi with hi | rfl
      · rcases hr with hr | rfl
        · exact m1 i hi hr
        · have := m2 i hi; omega
      · exact HT6.out.slots.out hr
    · rintro i (hi | rfl)
      · have := m2 i hi; omega
      · exact HT6.out.slots.lt
    · show TabAt w6 T S4 c4 _ s.seed (kn sl6).length sl6
      rw [hp6.length_eq, hln]
      exact HT6.out
    · rintro i (hi | rfl)
      · exact .inl hi
      · exact HS4.out
    · rintro i (hi | rfl)
      · exact .inl hi
      · exact .inr (by omega)
end Go.Proofs.Ytffcbekogpgciaa.Pr
