
/-
  Layer 14 (probe): Remove.
-/
import Derived.Test.YtffcbekogpgciaaPrSet
set_option linter.unusedVariables false
set_option linter.unusedSimpArgs false
namespace Go.Proofs.Ytffcbekogpgciaa.Pr
open Go Go.RowKit

theorem rem_zero (T : Nat) (v : Value) (w : World) (ht : w.cell? ⟨T, 1, none⟩ = some (.slice none 0 0)) :
    Calls Try.prog 11 #[.pointer (some ⟨T, 0, none⟩), v] w fun e w' => e = .returned (.int .i64 2) ∧ w = w' := by
  go_enter Try.func11, Try.ntmps11
  go_wp2_with fail
  refine (mayT_zero T _ _ ht).mono ?_
  rintro e w1 ⟨rfl, rfl⟩
  go_wp2
  go_ret
  exact ⟨rfl, rfl⟩
theorem rem_no (T : Nat) (M R : Nat → Prop) (s : PT) (w : World) (h : TabM w T M R s) (kv : Value) (k : List UInt8) (hk : Bs w w.heap.size kv k) (hl : k.length = 0 ∨ 64 < k.length) (hkl : k.length < 1000000) :
    Calls Try.prog 11 #[.pointer (some ⟨T, 0, none⟩), kv] w fun e w' => e = .returned (.int .i64 1) ∧ w = w' := by
  obtain ⟨ho, h1, h2, h3, S, c, h4, h5, h6⟩ := h
  have HL := Lib.hid hl
  clear hl
  go_enter Try.func11, Try.ntmps11
  go_wp2_with fail
  refine (mayT_no T S c _ _ _ _ h4.cells _ k _ hk HL.out (by omega)).mono ?_
  rintro e w1 ⟨rfl, rfl⟩
  go_wp2
  go_ret
  exact ⟨rfl, rfl⟩
theorem rem_none (T : Nat) (M R : Nat → Prop) (s : PT) (w : World) (h : TabM w T M R s) (kv : Value) (k : List UInt8) (hk : Bs w w.heap.size kv k) (hl0 : 0 < k.length) (hl1 : k.length ≤ 64) (hno : ∀ p ∈ s.prs, p.1 ≠ k) :
    Calls Try.prog 11 #[.pointer (some ⟨T, 0, none⟩), kv] w fun e w' => e = .returned (.int .i64 6) ∧ Below w.heap.size w w' := by
  obtain ⟨ho, h1, h2, h3, S, c, h4, h5, h6⟩ := h
  have HO := Lib.hid ho
  have HN := Lib.hid hno
  clear ho hno
  go_enter Try.func11, Try.ntmps11
  go_wp2_with fail
  refine (mayT_yes T S c _ _ _ _ h4.cells _ k _ hk hl0 hl1).mono ?_
  rintro e w1 ⟨rfl, rfl⟩
  go_wp2_with fail
  refine (find_b T S c R s.seed _ s.sl _ h4 HO.out.seed (by have := HO.out.l9; omega) (by have := HO.out.l8; omega) HO.out.emp HO.out.lay _ k hk (by omega)).mono ?_
  rintro e w2 ⟨⟨at', b, rfl, hf⟩, hb2⟩
  have HB := Lib.hid hb2
  clear hb2
  rcases hf with ⟨rfl, hat, e, he, rfl⟩ | ⟨rfl, rfl, _⟩
  · exact absurd rfl (HN.out _ (mem_of_at he))
  · go_wp2
    go_ret
    exact ⟨rfl, HB.out⟩
set_option maxRecDepth 100000 in
set_option maxHeartbeats 8000000 in
theorem rem_yes (T : Nat) (M R : Nat → Prop) (s : PT) (w : World) (h : TabM w T M R s) (kv : Value) (k : List UInt8) (hk : Bs w w.heap.size kv k) (hl0 : 0 < k.length) (hl1 : k.length ≤ 64) (v : Nat) (hin : (k, v) ∈ s.prs) :
    Calls Try.prog 11 #[.pointer (some ⟨T, 0, none⟩), kv] w fun e w' => e = .returned (.int .i64 0) ∧ ∃ s', s'.seed = s.seed ∧ List.Perm s'.prs (remA s.prs k) ∧ PMut w w' T M R s' := by
  obtain ⟨ho, h1, h2, h3, S, c, h4, h5, h6⟩ := h
  have HO := Lib.hid ho
  have HT := Lib.hid h4
  have HIn := Lib.hid hin
  have HMR := Lib.hid (And.intro h1 (And.intro h2 (And.intro h3 (And.intro h5 h6))))
  obtain ⟨m, hm⟩ : ∃ m, s.prs.length = m + 1 := by
    have : 0 < s.prs.length := List.length_pos_of_mem hin
    exact ⟨s.prs.length - 1, by omega⟩
  have HM := Lib.hid hm
  have hm9 : m < 1000000 := by have := ho.few; omega
  clear ho h1 h2 h3 h5 h6 hin hm
  go_enter Try.func11, Try.ntmps11
  go_wp2_with fail
  refine (mayT_yes T S c _ _ _ _ h4.cells _ k _ hk hl0 hl1).mono ?_
  rintro e w1 ⟨rfl, rfl⟩
  go_wp2_with fail
  refine (find_b T S c R s.seed _ s.sl _ h4 HO.out.seed (by have := HO.out.l9; omega) (by have := HO.out.l8; omega) HO.out.emp HO.out.lay _ k hk (by omega)).mono ?_
  rintro e w2 ⟨⟨at', b, rfl, hf⟩, hb2⟩
  have HB := Lib.hid hb2
  clear hb2 h4 hk
  rcases hf with ⟨rfl, hat, e, he, rfl⟩ | ⟨rfl, rfl, hno⟩
  · have HE := Lib.hid he
    have HTt := Lib.hid (take_b T S c R s.seed s.prs.length s.sl w2 (HT.out.on HB.out) (fun i hi => by have := HMR.out.2.2.1 i hi; have := HB.out.size; omega) HO.out.seed (by have := HO.out.l9; omega) (by have := HO.out.l8; omega) HO.out.emp HO.out.lay at' e hat he)
    clear he
    go_wp2_with fail
    refine HTt.out.mono ?_
    rintro e2 w3 ⟨rfl, sl3, hto, htab3, hch3⟩
    rw [HM.out] at htab3
    have HTo := Lib.hid hto
    have HT3 := Lib.hid htab3
    have HG3 := Lib.hid ((Chg.of_below (M := fun i => i = S) HB.out).trans hch3 (fun i e => .inl e))
    have hc2 := htab3.cells.c2
    have hf2 := htab3.cells.f2
    clear hto htab3 hch3 HTt
    obtain ⟨W4, hW4⟩ : ∃ W4, w3.setCell ⟨T, 2, none⟩ (.int .i64 (m : Int)) = W4 := ⟨_, rfl⟩
    have hc4 : Chg (fun i => i = T) w3 W4 := by rw [← hW4]; exact (Chg.refl (M := fun i => i = T)).setCell (p := ⟨T, 2, none⟩) rfl _
    have hTR : ∀ i, i = T → ¬ R i := fun i e c => HT.out.outT (e ▸ c)
    have HT4 : Hid (TabAt W4 T S c R s.seed m sl3) := Lib.hid ⟨by
      rw [← hW4]
      exact HT3.out.cells.set2 m, HT3.out.slots.chg hc4 hTR (fun e => HT.out.ne e.symm), HT.out.ne, HT.out.outT⟩
    have HC4 := Lib.hid hc4
    have HR4 : Hid (∀ i, R i → i < W4.heap.size) := Lib.hid (fun i hi => by have := HMR.out.2.2.1 i hi; have := HG3.out.size; have := hc4.size; omega)
    clear hc4 hTR
    have jm : ((m : Int) + 1) - 1 = (m : Int) := by omega
    go_wp2_with fail
    clear hc2 hf2 hW4
    obtain ⟨hlay3, hlen3, hperm3⟩ := HTo.out
    have hmem := mem_of_at HE.out
    have hsp := remA_split HO.out.once hmem
    have hp3 : List.Perm (kn sl3) (remA s.prs e.key) := (List.perm_cons _).1 (hperm3.trans hsp)
    have hrl : (remA s.prs e.key).length = m := by
      have := hsp.length_eq
      rw [List.length_cons] at this
      have := HM.out
      omega
    have hl3 : Lay (fun k => Ky.hash s.seed k % sl3.length) sl3 := by rw [hlen3]; exact hlay3
    have hkl : ∀ (i : Nat) (x : E), sl3[i]? = some (some x) → x.key.length < 1000000 := fun i x hi => by
      obtain ⟨hil, hie⟩ := List.getElem?_eq_some_iff.1 hi
      have h1 : (x.key, x.n) ∈ kn sl3 := mem_of_at (i := i) (by rw [at_lt hil]; exact hie)
      have h2 := (remA_mem.1 (hp3.mem_iff.1 h1)).1
      have := (HO.out.keys _ h2).2
      simp only at this
      omega
    have HFit := Lib.hid (fit_b T S c R s.seed m sl3 W4 HT4.out HR4.out HO.out.seed (by have := HO.out.l9; omega) (by have := HO.out.l8; omega) (by omega) hl3 (by rw [hp3.length_eq, hrl]; exact Nat.le_refl _) hkl)
    have HP3 := Lib.hid hp3
    have HRl := Lib.hid hrl
    clear hlay3 hlen3 hperm3 hmem hsp hp3 hrl hl3 hkl
    refine HFit.out.mono ?_
    rintro e5 w5 ⟨rfl, S5, c5, sl5, hlay5, hlen5, hperm5, htab5, hch5, hS5⟩
    have HX5 := Lib.hid (And.intro hlay5 (And.intro hlen5 (And.intro hperm5 (And.intro htab5 (And.intro hch5 hS5)))))
    clear hlay5 hlen5 hperm5 htab5 hch5 hS5 HFit
    go_wp2
    go_ret
    obtain ⟨hlay5, hlen5, hperm5, htab5, hch5, hS5⟩ := HX5.out
    obtain ⟨m1, m2, m3, m4, m5⟩ := HMR.out
    have hp5 : List.Perm (kn sl5) (remA s.prs e.key) := hperm5.trans HP3.out
    have hok : (⟨s.seed, sl5⟩ : PT).Ok := by
      refine PT.ok_of HO.out.seed (by rw [hlen5]; exact hlay5) hp5 (by rw [HRl.out, hlen5]) (remA_nodup' HO.out.once e.key) ?_ ?_ (by rw [HRl.out]; omega)
      · intro p hp
        exact HO.out.keys p (remA_mem.1 hp).1
      · intro p hp
        exact HO.out.nums p (remA_mem.1 hp).1
    have hs3 := HG3.out.size
    have hs4 := HC4.out.size
    have hs5 := hch5.size
    have hS5' : M S5 ∨ w.heap.size ≤ S5 := by
      rcases hS5 with e | e
      · exact .inl (by rw [e]; exact m5)
      · exact .inr (by omega)
    refine ⟨rfl, ⟨s.seed, sl5⟩, rfl, hp5, fun i => (M i ∨ i = S5), R, ⟨hok, ?_, ?_, fun i hi => by have := m3 i hi; omega, S5, c5, ?_, .inl m4, .inr rfl⟩, ((HG3.out.mono (fun i e => e ▸ m5)).trans HC4.out (fun i e => .inl (e ▸ m4))).trans hch5 (fun i e => .inl (e ▸ m4)), ?_, fun i hi => .inl hi⟩
    · rintro i hi hr
      rcases hi with hi | rfl
      · exact m1 i hi hr
      · exact htab5.slots.out hr
    · rintro i (hi | rfl)
      · have := m2 i hi; omega
      · exact htab5.slots.lt
    · show TabAt w5 T S5 c5 _ s.seed (kn sl5).length sl5
      rw [hp5.length_eq, HRl.out]
      exact htab5
    · rintro i (hi | rfl)
      · exact .inl hi
      · exact hS5'
  · obtain ⟨i, x, _, h2, h3, _⟩ := mem_kn.1 HIn.out
    exact absurd h3 (hno i x h2)
end Go.Proofs.Ytffcbekogpgciaa.Pr
