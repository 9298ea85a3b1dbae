
/-
  ProbeAlone: a table is told by what is in it alone: walked.
-/
import Derived.Test.YtffcbekogpgciaaPrArgs
import Derived.Test.YtffcbekogpgciaaPrTwo
import Derived.Test.YtffcbekogpgciaaPrMap
import Derived.Test.YtffcbekogpgciaaPrAlike
import Derived.BigQuiet
import Derived.Deep.RegionHeld3
import Derived.Deep.CutBlock
import Derived.Deep.CutRange
import Derived.Deep.DeepCutAuto
set_option linter.unusedVariables false
set_option linter.unusedSimpArgs false
namespace Go.Proofs.Ytffcbekogpgciaa.Pr
open Go Go.RowKit

/-- the number that goes with a key -/
def valOf (A : Prs) (k : List UInt8) : Nat := ((A.find? fun p => decide (p.1 = k)).map (·.2)).getD 0
theorem valOf_mem {A : Prs} {k : List UInt8} (h : k ∈ A.map (·.1)) : (k, valOf A k) ∈ A := by
  unfold valOf
  cases hf : A.find? fun p => decide (p.1 = k) with
  | none =>
    rw [List.find?_eq_none] at hf
    obtain ⟨p, hp, rfl⟩ := List.mem_map.1 h
    exact absurd (hf p hp) (by simp)
  | some p =>
    have h1 := List.find?_some hf
    have h2 := List.mem_of_find?_eq_some hf
    have h3 : p.1 = k := by simpa using h1
    subst h3
    exact h2
theorem valOf_gets {A : Prs} (hd : (A.map (·.1)).Nodup) {k : List UInt8} (h : k ∈ A.map (·.1)) {v : Nat} {b : Bool} (hg : Gets A k v b) : v = valOf A k ∧ b = true := by
  rcases hg with ⟨rfl, hm⟩ | ⟨_, _, hno⟩
  · exact ⟨once_mem hd hm (valOf_mem h), rfl⟩
  · exact absurd rfl (hno _ (valOf_mem h))
theorem valOf_all {A : Prs} (hd : (A.map (·.1)).Nodup) {ks : List (List UInt8)} (hp : List.Perm ks (A.map (·.1))) : List.Perm (ks.map fun k => (k, valOf A k)) A := by
  refine (hp.map _).trans ?_
  rw [List.map_map]
  have : (A.map ((fun k => (k, valOf A k)) ∘ fun x => x.1)) = A := by
    conv => rhs; rw [← List.map_id A]
    refine List.map_congr_left (fun p hp => ?_)
    have := once_mem hd (valOf_mem (A := A) (k := p.1) (List.mem_map.2 ⟨p, hp, rfl⟩)) (show (p.1, p.2) ∈ A from hp)
    show (p.1, valOf A p.1) = p
    rw [this]
  rw [this]
theorem take_step {l : List (List UInt8)} {f : List UInt8 → Nat} {P P' : Prs} {i : Nat} {k : List UInt8} (hn : l.Nodup) (hi : l[i]? = some k) (hP : List.Perm P ((l.take i).map fun k => (k, f k))) (hP' : List.Perm P' ((k, f k) :: remA P k)) : List.Perm P' ((l.take (i + 1)).map fun k => (k, f k)) := by
  have h1 : remA P k = P := remA_none (fun p hp e => by
    obtain ⟨k', hk', rfl⟩ := List.mem_map.1 (hP.mem_iff.1 hp)
    simp only at e
    subst e
    obtain ⟨j, hj, he⟩ := List.mem_iff_getElem.1 hk'
    rw [List.getElem_take] at he
    obtain ⟨hil, hie⟩ := List.getElem?_eq_some_iff.1 hi
    rw [List.length_take] at hj
    have hpw := List.pairwise_iff_getElem.1 hn
    exact hpw j i (by omega) hil (by omega) (he.trans hie.symm))
  rw [h1] at hP'
  rw [List.take_add_one, hi, List.map_append]
  exact hP'.trans ((hP.cons _).trans (List.perm_append_comm (l₁ := [(k, f k)])))

theorem mk14 (w : World) : (Instr.makeMap 55 none).run Try.prog w = .ok (.map (some w.heap.size)) (w.alloc (.map #[] 0)) := by
  simp [Instr.makeMap, run_underlying Try.underlying55, go_sem, Result.andThen]
/-- the second loop: what was set anew so far -/
structure UpDown (N : Nat → Prop) (w9 wr : World) (T U D seed : Nat) (s u d : PT) (ks : List (List UInt8)) (i : Nat) : Prop where
  tabs : Tabs N wr [(T, s), (U, u), (D, d)]
  seed : u.seed = seed ∧ d.seed = seed
  up : List.Perm u.prs ((ks.take i).map fun k => (k, valOf s.prs k))
  down : List.Perm d.prs ((ks.reverse.take i).map fun k => (k, valOf s.prs k))
  chg : Chg N w9 wr

set_option maxRecDepth 100000 in
set_option maxHeartbeats 8000000 in
theorem alone_walk (seed : Nat) (v1 : Value) (l1 : List Call14) (w : World) (hs : seed < 18446744073709551616) (hl1 : Calls14 w w.heap.size v1 l1) :
    Calls Try.prog 4 #[.int .u64 (seed : Int), v1] w fun e w' => e = .returned (.bool true) ∧ Below w.heap.size w w' := by
  obtain ⟨A1, c1, rfl, hlc, hcm, hrow⟩ := hl1
  have HRow := Lib.hid hrow
  have hlm : l1.length ≤ 9223372036854775807 := by unfold maxLen at hcm; omega
  clear hrow
  go_enter Try.func4, Try.ntmps4
  go_wp2_with fail
  refine (tabs_new (N := fun z => w.heap.size ≤ z) Tabs.nil seed hs (fun z hz => hz)).mono ?_
  rintro e w1 ⟨T, rfl, ht, hb1⟩
  obtain ⟨w2, hw2⟩ : ∃ w2, w1.alloc (.map #[] 0) = w2 := ⟨_, rfl⟩
  obtain ⟨Hm, hHm⟩ : ∃ Hm, w1.heap.size = Hm := ⟨_, rfl⟩
  have hb2 : Below w1.heap.size w1 w2 := by rw [← hw2]; exact (Below.refl _ _).alloc (Nat.le_refl _) _
  have HMP0 : Hid (MapP w2 Hm []) := Lib.hid (by rw [← hw2, ← hHm]; exact MapP.new w1)
  have HHm : Hid (w.heap.size ≤ Hm) := Lib.hid (by rw [← hHm]; exact hb1.size)
  have HT0 : Hid (Tabs (fun z => w.heap.size ≤ z ∧ z ≠ Hm) w2 [(T, PT.new seed)]) := Lib.hid ((Tabs.mono (N' := fun z => w.heap.size ≤ z ∧ z ≠ Hm) ht (fun x h1 h2 => ⟨h1, by omega⟩)).on hb2)
  have HB0 : Hid (Below w.heap.size w w2) := Lib.hid (hb1.trans (hb2.mono hb1.size))
  have HS0 : Hid ((PT.new seed).prs.length ≤ 0 ∧ (PT.new seed).seed = seed ∧ Tabs (fun z => w.heap.size ≤ z ∧ z ≠ Hm) w2 [(T, PT.new seed)] ∧ MapP w2 Hm (PT.new seed).prs ∧ Below w.heap.size w w2) := Lib.hid ⟨by rw [show (PT.new seed).prs = [] from kn_none 8]; exact Nat.le_refl _, rfl, HT0.out, by rw [show (PT.new seed).prs = [] from kn_none 8]; exact HMP0.out, HB0.out⟩
  clear ht hb1 hb2 HMP0 HT0 HB0
  generalize PT.new seed = s0 at *
  have hmk := mk14
  go_upto_block 0 with fail
  try rw [hw2]
  try rw [hHm]
  clear hw2 hHm hmk
  go_cut [7, 8, 9, 10, 11] from 28 to 92 (fun xi xc xk xn xt wx => ∃ s : PT, Hid (s.prs.length ≤ 100 ∧ s.seed = seed ∧ Tabs (fun z => w.heap.size ≤ z ∧ z ≠ Hm) wx [(T, s)] ∧ MapP wx Hm s.prs ∧ Below w.heap.size w wx))
  case first =>
    go_wp2_with fail
    go_loopw [7] (fun ix wr => ∃ (i : Nat) (s : PT), ix = .int .i64 (i : Int) ∧ i ≤ l1.length ∧ i ≤ 100 ∧ Hid (s.prs.length ≤ i ∧ s.seed = seed ∧ Tabs (fun z => w.heap.size ≤ z ∧ z ≠ Hm) wr [(T, s)] ∧ MapP wr Hm s.prs ∧ Below w.heap.size w wr)) (fun ix _ => l1.length - (intOf ix).toNat)
    case atStart => exact ⟨0, s0, rfl, Nat.zero_le _, by omega, HS0⟩
    case round =>
      clear HS0 s0
      obtain ⟨i, s, rfl, hil, hi, HI⟩ := hrel
      rename World => wr
      by_cases hlt : i < l1.length ∧ i < 100
      · obtain ⟨hlt1, hlt2⟩ := hlt
        have j0 : (i : Int) < (l1.length : Int) := by omega
        have j1 : (i : Int) < 100 := by omega
        obtain ⟨⟨wh, k0, nn⟩, hcl⟩ : ∃ k, l1[i]? = some k := ⟨_, List.getElem?_eq_getElem (by omega)⟩
        obtain ⟨bb, o, rfl, hbB, hc0, ⟨kv, hc1, hkb, hkm⟩, hc2, hnn⟩ := HRow.out i _ hcl
        simp only at hc0 hc1 hkb hkm hc2 hnn
        obtain ⟨Ak, ck, rfl, hkc, hkr⟩ := hkb
        obtain ⟨q, hq⟩ : ∃ q, q = min k0.length 64 := ⟨_, rfl⟩
        obtain ⟨A', c', hcut, hqc, hcr⟩ := kcut_h Ak k0.length ck q (by omega) hkc
        have hmn : min (k0.length : Int) 64 = (q : Int) := by omega
        have hmn2 : min (64 : Int) (k0.length : Int) = (q : Int) := by omega
        have hql : (k0.take q).length = q := by rw [List.length_take]; omega
        have hq64 : q ≤ 64 := by omega
        have hkm2 : k0.length ≤ 9223372036854775807 := hkm
        have HKb : Hid (∀ V, Below w.heap.size w V → Bs V w.heap.size (.slice A' q c') (k0.take q)) := Lib.hid (fun V hV => ⟨A', c', by rw [hql], by rw [hql]; exact hqc, hcr V w.heap.size k0 rfl (hkr.below hV (Nat.le_refl _))⟩)
        have HCv : Hid (∀ V, Below w.heap.size w V → (convert 30 9 (.slice A' q c')).run Try.prog V = .ok (.string ⟨(k0.take q).toArray⟩) V) := Lib.hid (fun V hV => by
          have := convert_rd (P := Try.prog) (l := k0.take q) (hcr V w.heap.size k0 rfl (hkr.below hV (Nat.le_refl _))) c' 30 5 9 Try.underlying30 Try.underlying5 Try.underlying9
          rw [hql] at this
          exact this)
        have hbel := HI.out.2.2.2.2
        have q0 := (hbel.cell (p := ⟨bb, o + i * 3, none⟩) hbB).trans hc0
        have q1 := (hbel.cell (p := ⟨bb, o + i * 3 + 1, none⟩) hbB).trans hc1
        have q2 := (hbel.cell (p := ⟨bb, o + i * 3 + 2, none⟩) hbB).trans hc2
        clear hcl hc0 hc1 hc2 hkr hcr hkm hq
        obtain ⟨w3, hw3⟩ : ∃ w3, wr.alloc (.cells #[.int .i64 wh, .slice Ak k0.length ck, .int .u64 (nn : Int)] 32) = w3 := ⟨_, rfl⟩
        obtain ⟨C, hC⟩ : ∃ C, wr.heap.size = C := ⟨_, rfl⟩
        have hbw : Below wr.heap.size wr w3 := by rw [← hw3]; exact (Below.refl _ _).alloc (Nat.le_refl _) _
        have hs3 : w3.heap.size = wr.heap.size + 1 := by rw [← hw3]; simp
        have y0 : w3.cell? ⟨C, 0, none⟩ = some (.int .i64 wh) := by rw [← hw3, ← hC]; simp
        have y1 : w3.cell? ⟨C, 1, none⟩ = some (.slice Ak k0.length ck) := by rw [← hw3, ← hC]; simp
        have y2 : w3.cell? ⟨C, 2, none⟩ = some (.int .u64 (nn : Int)) := by rw [← hw3, ← hC]; simp
        have hwr : w.heap.size ≤ wr.heap.size := hbel.size
        have HT3 : Hid (Tabs (fun z => (w.heap.size ≤ z ∧ z ≠ Hm) ∧ z ≠ C) w3 [(T, s)]) := Lib.hid ((HI.out.2.2.1.mono (fun x h1 h2 => ⟨h1, by omega⟩)).on hbw)
        have HM3 : Hid (MapP w3 Hm s.prs) := Lib.hid (HI.out.2.2.2.1.on hbw)
        have HB3 : Hid (Below w.heap.size w w3) := Lib.hid (hbel.trans (hbw.mono hwr))
        have HSs : Hid (s.prs.length ≤ i ∧ s.seed = seed ∧ s.Ok) := Lib.hid ⟨HI.out.1, HI.out.2.1, HI.out.2.2.1.ok (i := 0) rfl⟩
        have HC9 : Hid (C < w3.heap.size ∧ w.heap.size ≤ C ∧ Hm < C) := Lib.hid ⟨by omega, by omega, by have := HI.out.2.2.2.1.lt; omega⟩
        obtain ⟨k, hk⟩ : ∃ k, k0.take q = k := ⟨_, rfl⟩
        rw [hk] at HKb HCv hql
        have HQl := Lib.hid hql
        have hcv3 := HCv.out w3 HB3.out
        obtain ⟨vv, there, hgets⟩ := gets_ex s.prs k
        have hlk3 := HM3.out.look (k := k) (by rw [hql]; unfold maxLen; omega) hgets
        have HG := Lib.hid hgets
        clear hbel hbw hs3 hwr HI hk hql hgets
        by_cases e0 : wh = (0 : Int)
        · subst e0
          go_wp2_with fail
          refine (tabs_set (i := 0) HT3.out rfl _ k ((HKb.out _ HB3.out).mono HB3.out.size) (by have := HQl.out; omega) nn hnn (by have := HSs.out.1; omega) (fun hz b hb c => by have := Bs.blk (HKb.out _ HB3.out) hz b hb; omega) (fun x hx => by have := HC9.out; have := HB3.out.size; refine ⟨⟨?_, ?_⟩, ?_⟩ <;> omega)).mono ?_
          rintro e w4 ⟨r, s2, rfl, hr, hse, ht, nb⟩
          have HT4 : Hid (Tabs (fun z => (w.heap.size ≤ z ∧ z ≠ Hm) ∧ z ≠ C) w4 [(T, s2)]) := Lib.hid ht
          have hCl : C < w3.heap.size := HC9.out.1
          have z2 : w4.cell? ⟨C, 2, none⟩ = some (.int .u64 (nn : Int)) := (nb.cell (p := ⟨C, 2, none⟩) hCl (fun c => c.2 rfl)).trans y2
          have HM4 := Lib.hid (HM3.out.chg nb (fun c => c.1.2 rfl))
          have HN4 := Lib.hid nb
          have hbl4 : Below w.heap.size w w4 := HB3.out.trans (nb.below HB3.out.size (fun i h => h.1.1))
          have HB4 := Lib.hid hbl4
          have hcv4 := HCv.out w4 hbl4
          have HSe := Lib.hid hse
          clear ht nb hse hbl4 y0 y1 y2 hcv3 hlk3
          by_cases hq0 : 0 < q
          · have hV : Vk k := by have := HQl.out; constructor <;> omega
            obtain ⟨rfl, hp⟩ : r = 0 ∧ List.Perm s2.prs ((k, nn) :: remA s.prs k) := by
              rcases hr with ⟨_, h1, h2⟩ | ⟨h1, _⟩
              · exact ⟨h1, h2⟩
              · exact absurd hV h1
            obtain ⟨w5, hst, hm5, ht5⟩ := HM4.out.store (by have := HSs.out.1; omega) (k := k) (by have := HQl.out; omega) hnn
            have j3 : (0 : Int) < (q : Int) := by omega
            have HP := Lib.hid hp
            have HM5 := Lib.hid hm5
            have HN5 := Lib.hid (chg_turned ht5)
            clear hr hp hm5 ht5
            go_wp2_with fail
            have hlen : s2.prs.length ≤ i + 1 := by have := set_len HP.out; have := HSs.out.1; omega
            have HR := Lib.hid (And.intro hlen (And.intro (HSe.out.trans HSs.out.2.1) (And.intro ((HT4.out.chg HN5.out (fun x hx c => c.1.2 hx)).mono (fun x h _ => h.1)) (And.intro (HM5.out.perm HP.out.symm) (HB4.out.trans (HN5.out.below HB4.out.size (fun i h => by have := HHm.out; omega)))))))
            go_roundw
            case rel => exact ⟨i + 1, s2, by go_num, by omega, by omega, HR⟩
            case measure => simp [intOf]; omega
          · have hV : ¬ Vk k := by intro c; have := c.1; have := HQl.out; omega
            obtain ⟨rfl, rfl⟩ : r = 1 ∧ s2 = s := by
              rcases hr with ⟨h1, _⟩ | ⟨_, h1, h2⟩
              · exact absurd h1 hV
              · exact ⟨h1, h2⟩
            have j3 : ¬ (0 : Int) < (q : Int) := by omega
            clear hr
            go_wp2_with fail
            have HR := Lib.hid (And.intro (Nat.le_succ_of_le HSs.out.1) (And.intro HSs.out.2.1 (And.intro (HT4.out.mono (fun x h _ => h.1)) (And.intro HM4.out HB4.out))))
            go_roundw
            case rel => exact ⟨i + 1, s2, by go_num, by omega, by omega, HR⟩
            case measure => simp [intOf]; omega
        by_cases e1 : wh = (1 : Int)
        · subst e1
          go_wp2_with fail
          refine (tabs_set (i := 0) HT3.out rfl _ k ((HKb.out _ HB3.out).mono HB3.out.size) (by have := HQl.out; omega) nn hnn (by have := HSs.out.1; omega) (fun hz b hb c => by have := Bs.blk (HKb.out _ HB3.out) hz b hb; omega) (fun x hx => by have := HC9.out; have := HB3.out.size; refine ⟨⟨?_, ?_⟩, ?_⟩ <;> omega)).mono ?_
          rintro e w4 ⟨r, s2, rfl, hr, hse, ht, nb⟩
          have HT4 : Hid (Tabs (fun z => (w.heap.size ≤ z ∧ z ≠ Hm) ∧ z ≠ C) w4 [(T, s2)]) := Lib.hid ht
          have hCl : C < w3.heap.size := HC9.out.1
          have z2 : w4.cell? ⟨C, 2, none⟩ = some (.int .u64 (nn : Int)) := (nb.cell (p := ⟨C, 2, none⟩) hCl (fun c => c.2 rfl)).trans y2
          have HM4 := Lib.hid (HM3.out.chg nb (fun c => c.1.2 rfl))
          have HN4 := Lib.hid nb
          have hbl4 : Below w.heap.size w w4 := HB3.out.trans (nb.below HB3.out.size (fun i h => h.1.1))
          have HB4 := Lib.hid hbl4
          have hcv4 := HCv.out w4 hbl4
          have HSe := Lib.hid hse
          clear ht nb hse hbl4 y0 y1 y2 hcv3 hlk3
          by_cases hq0 : 0 < q
          · have hV : Vk k := by have := HQl.out; constructor <;> omega
            obtain ⟨rfl, hp⟩ : r = 0 ∧ List.Perm s2.prs ((k, nn) :: remA s.prs k) := by
              rcases hr with ⟨_, h1, h2⟩ | ⟨h1, _⟩
              · exact ⟨h1, h2⟩
              · exact absurd hV h1
            obtain ⟨w5, hst, hm5, ht5⟩ := HM4.out.store (by have := HSs.out.1; omega) (k := k) (by have := HQl.out; omega) hnn
            have j3 : (0 : Int) < (q : Int) := by omega
            have HP := Lib.hid hp
            have HM5 := Lib.hid hm5
            have HN5 := Lib.hid (chg_turned ht5)
            clear hr hp hm5 ht5
            go_wp2_with fail
            have hlen : s2.prs.length ≤ i + 1 := by have := set_len HP.out; have := HSs.out.1; omega
            have HR := Lib.hid (And.intro hlen (And.intro (HSe.out.trans HSs.out.2.1) (And.intro ((HT4.out.chg HN5.out (fun x hx c => c.1.2 hx)).mono (fun x h _ => h.1)) (And.intro (HM5.out.perm HP.out.symm) (HB4.out.trans (HN5.out.below HB4.out.size (fun i h => by have := HHm.out; omega)))))))
            go_roundw
            case rel => exact ⟨i + 1, s2, by go_num, by omega, by omega, HR⟩
            case measure => simp [intOf]; omega
          · have hV : ¬ Vk k := by intro c; have := c.1; have := HQl.out; omega
            obtain ⟨rfl, rfl⟩ : r = 1 ∧ s2 = s := by
              rcases hr with ⟨h1, _⟩ | ⟨_, h1, h2⟩
              · exact absurd h1 hV
              · exact ⟨h1, h2⟩
            have j3 : ¬ (0 : Int) < (q : Int) := by omega
            clear hr
            go_wp2_with fail
            have HR := Lib.hid (And.intro (Nat.le_succ_of_le HSs.out.1) (And.intro HSs.out.2.1 (And.intro (HT4.out.mono (fun x h _ => h.1)) (And.intro HM4.out HB4.out))))
            go_roundw
            case rel => exact ⟨i + 1, s2, by go_num, by omega, by omega, HR⟩
            case measure => simp [intOf]; omega
        by_cases e2 : wh = (2 : Int)
        · subst e2
          go_wp2_with fail
          refine (tabs_set (i := 0) HT3.out rfl _ k ((HKb.out _ HB3.out).mono HB3.out.size) (by have := HQl.out; omega) nn hnn (by have := HSs.out.1; omega) (fun hz b hb c => by have := Bs.blk (HKb.out _ HB3.out) hz b hb; omega) (fun x hx => by have := HC9.out; have := HB3.out.size; refine ⟨⟨?_, ?_⟩, ?_⟩ <;> omega)).mono ?_
          rintro e w4 ⟨r, s2, rfl, hr, hse, ht, nb⟩
          have HT4 : Hid (Tabs (fun z => (w.heap.size ≤ z ∧ z ≠ Hm) ∧ z ≠ C) w4 [(T, s2)]) := Lib.hid ht
          have hCl : C < w3.heap.size := HC9.out.1
          have z2 : w4.cell? ⟨C, 2, none⟩ = some (.int .u64 (nn : Int)) := (nb.cell (p := ⟨C, 2, none⟩) hCl (fun c => c.2 rfl)).trans y2
          have HM4 := Lib.hid (HM3.out.chg nb (fun c => c.1.2 rfl))
          have HN4 := Lib.hid nb
          have hbl4 : Below w.heap.size w w4 := HB3.out.trans (nb.below HB3.out.size (fun i h => h.1.1))
          have HB4 := Lib.hid hbl4
          have hcv4 := HCv.out w4 hbl4
          have HSe := Lib.hid hse
          clear ht nb hse hbl4 y0 y1 y2 hcv3 hlk3
          by_cases hq0 : 0 < q
          · have hV : Vk k := by have := HQl.out; constructor <;> omega
            obtain ⟨rfl, hp⟩ : r = 0 ∧ List.Perm s2.prs ((k, nn) :: remA s.prs k) := by
              rcases hr with ⟨_, h1, h2⟩ | ⟨h1, _⟩
              · exact ⟨h1, h2⟩
              · exact absurd hV h1
            obtain ⟨w5, hst, hm5, ht5⟩ := HM4.out.store (by have := HSs.out.1; omega) (k := k) (by have := HQl.out; omega) hnn
            have j3 : (0 : Int) < (q : Int) := by omega
            have HP := Lib.hid hp
            have HM5 := Lib.hid hm5
            have HN5 := Lib.hid (chg_turned ht5)
            clear hr hp hm5 ht5
            go_wp2_with fail
            have hlen : s2.prs.length ≤ i + 1 := by have := set_len HP.out; have := HSs.out.1; omega
            have HR := Lib.hid (And.intro hlen (And.intro (HSe.out.trans HSs.out.2.1) (And.intro ((HT4.out.chg HN5.out (fun x hx c => c.1.2 hx)).mono (fun x h _ => h.1)) (And.intro (HM5.out.perm HP.out.symm) (HB4.out.trans (HN5.out.below HB4.out.size (fun i h => by have := HHm.out; omega)))))))
            go_roundw
            case rel => exact ⟨i + 1, s2, by go_num, by omega, by omega, HR⟩
            case measure => simp [intOf]; omega
          · have hV : ¬ Vk k := by intro c; have := c.1; have := HQl.out; omega
            obtain ⟨rfl, rfl⟩ : r = 1 ∧ s2 = s := by
              rcases hr with ⟨h1, _⟩ | ⟨_, h1, h2⟩
              · exact absurd h1 hV
              · exact ⟨h1, h2⟩
            have j3 : ¬ (0 : Int) < (q : Int) := by omega
            clear hr
            go_wp2_with fail
            have HR := Lib.hid (And.intro (Nat.le_succ_of_le HSs.out.1) (And.intro HSs.out.2.1 (And.intro (HT4.out.mono (fun x h _ => h.1)) (And.intro HM4.out HB4.out))))
            go_roundw
            case rel => exact ⟨i + 1, s2, by go_num, by omega, by omega, HR⟩
            case measure => simp [intOf]; omega
        by_cases e3 : wh = (3 : Int)
        · subst e3
          go_wp2_with fail
          refine (tabs_set (i := 0) HT3.out rfl _ k ((HKb.out _ HB3.out).mono HB3.out.size) (by have := HQl.out; omega) nn hnn (by have := HSs.out.1; omega) (fun hz b hb c => by have := Bs.blk (HKb.out _ HB3.out) hz b hb; omega) (fun x hx => by have := HC9.out; have := HB3.out.size; refine ⟨⟨?_, ?_⟩, ?_⟩ <;> omega)).mono ?_
          rintro e w4 ⟨r, s2, rfl, hr, hse, ht, nb⟩
          have HT4 : Hid (Tabs (fun z => (w.heap.size ≤ z ∧ z ≠ Hm) ∧ z ≠ C) w4 [(T, s2)]) := Lib.hid ht
          have hCl : C < w3.heap.size := HC9.out.1
          have z2 : w4.cell? ⟨C, 2, none⟩ = some (.int .u64 (nn : Int)) := (nb.cell (p := ⟨C, 2, none⟩) hCl (fun c => c.2 rfl)).trans y2
          have HM4 := Lib.hid (HM3.out.chg nb (fun c => c.1.2 rfl))
          have HN4 := Lib.hid nb
          have hbl4 : Below w.heap.size w w4 := HB3.out.trans (nb.below HB3.out.size (fun i h => h.1.1))
          have HB4 := Lib.hid hbl4
          have hcv4 := HCv.out w4 hbl4
          have HSe := Lib.hid hse
          clear ht nb hse hbl4 y0 y1 y2 hcv3 hlk3
          by_cases hq0 : 0 < q
          · have hV : Vk k := by have := HQl.out; constructor <;> omega
            obtain ⟨rfl, hp⟩ : r = 0 ∧ List.Perm s2.prs ((k, nn) :: remA s.prs k) := by
              rcases hr with ⟨_, h1, h2⟩ | ⟨h1, _⟩
              · exact ⟨h1, h2⟩
              · exact absurd hV h1
            obtain ⟨w5, hst, hm5, ht5⟩ := HM4.out.store (by have := HSs.out.1; omega) (k := k) (by have := HQl.out; omega) hnn
            have j3 : (0 : Int) < (q : Int) := by omega
            have HP := Lib.hid hp
            have HM5 := Lib.hid hm5
            have HN5 := Lib.hid (chg_turned ht5)
            clear hr hp hm5 ht5
            go_wp2_with fail
            have hlen : s2.prs.length ≤ i + 1 := by have := set_len HP.out; have := HSs.out.1; omega
            have HR := Lib.hid (And.intro hlen (And.intro (HSe.out.trans HSs.out.2.1) (And.intro ((HT4.out.chg HN5.out (fun x hx c => c.1.2 hx)).mono (fun x h _ => h.1)) (And.intro (HM5.out.perm HP.out.symm) (HB4.out.trans (HN5.out.below HB4.out.size (fun i h => by have := HHm.out; omega)))))))
            go_roundw
            case rel => exact ⟨i + 1, s2, by go_num, by omega, by omega, HR⟩
            case measure => simp [intOf]; omega
          · have hV : ¬ Vk k := by intro c; have := c.1; have := HQl.out; omega
            obtain ⟨rfl, rfl⟩ : r = 1 ∧ s2 = s := by
              rcases hr with ⟨h1, _⟩ | ⟨_, h1, h2⟩
              · exact absurd h1 hV
              · exact ⟨h1, h2⟩
            have j3 : ¬ (0 : Int) < (q : Int) := by omega
            clear hr
            go_wp2_with fail
            have HR := Lib.hid (And.intro (Nat.le_succ_of_le HSs.out.1) (And.intro HSs.out.2.1 (And.intro (HT4.out.mono (fun x h _ => h.1)) (And.intro HM4.out HB4.out))))
            go_roundw
            case rel => exact ⟨i + 1, s2, by go_num, by omega, by omega, HR⟩
            case measure => simp [intOf]; omega
        by_cases e4 : wh = (4 : Int)
        · subst e4
          go_wp2_with fail
          refine (tabs_rem (i := 0) HT3.out rfl _ k ((HKb.out _ HB3.out).mono HB3.out.size) (by have := HQl.out; omega) (fun x hx => by have := HC9.out; have := HB3.out.size; refine ⟨⟨?_, ?_⟩, ?_⟩ <;> omega)).mono ?_
          rintro e w4 ⟨r, s2, rfl, hr, hp, hse, ht, nb⟩
          have HT4 : Hid (Tabs (fun z => (w.heap.size ≤ z ∧ z ≠ Hm) ∧ z ≠ C) w4 [(T, s2)]) := Lib.hid ht
          have HM4 := Lib.hid (HM3.out.chg nb (fun c => c.1.2 rfl))
          have hbl4 : Below w.heap.size w w4 := HB3.out.trans (nb.below HB3.out.size (fun i h => h.1.1))
          have HB4 := Lib.hid hbl4
          have hcv4 := HCv.out w4 hbl4
          have HSe := Lib.hid hse
          have HP := Lib.hid hp
          have jr : ((r : Int) == 0) = there := by
            rcases hr with ⟨_, rfl, v, h1⟩ | ⟨_, rfl, h1⟩ | ⟨h1, rfl⟩
            · rcases HG.out with ⟨rfl, _⟩ | ⟨_, _, h2⟩
              · rfl
              · exact absurd rfl (h2 _ h1)
            · rcases HG.out with ⟨_, h2⟩ | ⟨rfl, _, _⟩
              · exact absurd rfl (h1 _ h2)
              · rfl
            · rcases HG.out with ⟨_, h2⟩ | ⟨rfl, _, _⟩
              · exact absurd (HSs.out.2.2.keys _ h2) h1
              · rfl
          have jt : (there != there) = false := by simp
          obtain ⟨w5, hdr, hm5, ht5⟩ := HM4.out.drop (k := k) (by have := HQl.out; omega) 0
          have HM5 := Lib.hid hm5
          have HN5 := Lib.hid (chg_turned ht5)
          clear ht nb hse hbl4 y0 y1 y2 hcv3 hlk3 hr hp hm5 ht5
          go_wp2_with fail
          have hlen : s2.prs.length ≤ i + 1 := by have := HP.out.length_eq; have := remA_len (A := s.prs) k; have := HSs.out.1; omega
          have HR := Lib.hid (And.intro hlen (And.intro (HSe.out.trans HSs.out.2.1) (And.intro ((HT4.out.chg HN5.out (fun x hx c => c.1.2 hx)).mono (fun x h _ => h.1)) (And.intro (HM5.out.perm HP.out.symm) (HB4.out.trans (HN5.out.below HB4.out.size (fun i h => by have := HHm.out; omega)))))))
          go_roundw
          case rel => exact ⟨i + 1, s2, by go_num, by omega, by omega, HR⟩
          case measure => simp [intOf]; omega
        by_cases e5 : wh = (5 : Int)
        · subst e5
          go_wp2_with fail
          refine (tabs_rem (i := 0) HT3.out rfl _ k ((HKb.out _ HB3.out).mono HB3.out.size) (by have := HQl.out; omega) (fun x hx => by have := HC9.out; have := HB3.out.size; refine ⟨⟨?_, ?_⟩, ?_⟩ <;> omega)).mono ?_
          rintro e w4 ⟨r, s2, rfl, hr, hp, hse, ht, nb⟩
          have HT4 : Hid (Tabs (fun z => (w.heap.size ≤ z ∧ z ≠ Hm) ∧ z ≠ C) w4 [(T, s2)]) := Lib.hid ht
          have HM4 := Lib.hid (HM3.out.chg nb (fun c => c.1.2 rfl))
          have hbl4 : Below w.heap.size w w4 := HB3.out.trans (nb.below HB3.out.size (fun i h => h.1.1))
          have HB4 := Lib.hid hbl4
          have hcv4 := HCv.out w4 hbl4
          have HSe := Lib.hid hse
          have HP := Lib.hid hp
          have jr : ((r : Int) == 0) = there := by
            rcases hr with ⟨_, rfl, v, h1⟩ | ⟨_, rfl, h1⟩ | ⟨h1, rfl⟩
            · rcases HG.out with ⟨rfl, _⟩ | ⟨_, _, h2⟩
              · rfl
              · exact absurd rfl (h2 _ h1)
            · rcases HG.out with ⟨_, h2⟩ | ⟨rfl, _, _⟩
              · exact absurd rfl (h1 _ h2)
              · rfl
            · rcases HG.out with ⟨_, h2⟩ | ⟨rfl, _, _⟩
              · exact absurd (HSs.out.2.2.keys _ h2) h1
              · rfl
          have jt : (there != there) = false := by simp
          obtain ⟨w5, hdr, hm5, ht5⟩ := HM4.out.drop (k := k) (by have := HQl.out; omega) 0
          have HM5 := Lib.hid hm5
          have HN5 := Lib.hid (chg_turned ht5)
          clear ht nb hse hbl4 y0 y1 y2 hcv3 hlk3 hr hp hm5 ht5
          go_wp2_with fail
          have hlen : s2.prs.length ≤ i + 1 := by have := HP.out.length_eq; have := remA_len (A := s.prs) k; have := HSs.out.1; omega
          have HR := Lib.hid (And.intro hlen (And.intro (HSe.out.trans HSs.out.2.1) (And.intro ((HT4.out.chg HN5.out (fun x hx c => c.1.2 hx)).mono (fun x h _ => h.1)) (And.intro (HM5.out.perm HP.out.symm) (HB4.out.trans (HN5.out.below HB4.out.size (fun i h => by have := HHm.out; omega)))))))
          go_roundw
          case rel => exact ⟨i + 1, s2, by go_num, by omega, by omega, HR⟩
          case measure => simp [intOf]; omega
        have h0 : (wh == (0 : Int)) = false := by simp; omega
        have h1 : (wh == (1 : Int)) = false := by simp; omega
        have h2 : (wh == (2 : Int)) = false := by simp; omega
        have h3 : (wh == (3 : Int)) = false := by simp; omega
        have h4 : (wh == (4 : Int)) = false := by simp; omega
        have h5 : (wh == (5 : Int)) = false := by simp; omega
        go_wp2_with fail
        have HR := Lib.hid (And.intro (Nat.le_succ_of_le HSs.out.1) (And.intro HSs.out.2.1 (And.intro (HT3.out.mono (fun x h _ => h.1)) (And.intro HM3.out HB3.out))))
        go_roundw
        case rel => exact ⟨i + 1, s, by go_num, by omega, by omega, HR⟩
        case measure => simp [intOf]; omega
      · have HE := Lib.hid (show s.prs.length ≤ 100 ∧ s.seed = seed ∧ Tabs (fun z => w.heap.size ≤ z ∧ z ≠ Hm) wr [(T, s)] ∧ MapP wr Hm s.prs ∧ Below w.heap.size w wr from ⟨Nat.le_trans HI.out.1 hi, HI.out.2⟩)
        rcases Nat.lt_or_ge i l1.length with hq | hq
        · have j0 : (i : Int) < (l1.length : Int) := by omega
          have j1 : ¬ (i : Int) < 100 := by omega
          have j2 : decide ((i : Int) < 100) = false := by simpa using j1
          go_wp2_with fail
          go_meet
          case rel => exact ⟨s, HE⟩
        · have j0 : ¬ (i : Int) < (l1.length : Int) := by omega
          have j1 : decide ((i : Int) < (l1.length : Int)) = false := by simpa using j0
          go_wp2_with fail
          go_meet
          case rel => exact ⟨s, HE⟩
  case rest =>
    clear HS0 s0
    obtain ⟨s, HS⟩ := hcut
    generalize wc = wA at *
    obtain ⟨hlen, hseed, htabs, hmap, hbel⟩ := HS.out
    have hNA : ∀ x, wA.heap.size ≤ x → w.heap.size ≤ x ∧ x ≠ Hm := fun x hx => ⟨by have := hbel.size; omega, by have := hmap.lt; omega⟩
    have HSs := Lib.hid (And.intro hlen (And.intro hseed (htabs.ok (i := 0) rfl)))
    have HTA := Lib.hid htabs
    have HMA := Lib.hid hmap
    have HBA := Lib.hid hbel
    have HNA := Lib.hid hNA
    clear hlen hseed htabs hmap hbel hNA HS
    go_wp2_with fail
    refine (tabs_new HTA.out seed hs HNA.out).mono ?_
    rintro e w7 ⟨U, rfl, ht, hb7⟩
    have HT7 := Lib.hid ht
    have HB7 := Lib.hid hb7
    clear ht hb7
    go_wp2_with fail
    refine (tabs_new HT7.out seed hs (fun x hx => HNA.out x (by have := HB7.out.size; omega))).mono ?_
    rintro e w8 ⟨D, rfl, ht, hb8⟩
    have HT8 : Hid (Tabs (fun z => w.heap.size ≤ z ∧ z ≠ Hm) w8 [(T, s), (U, PT.new seed), (D, PT.new seed)]) := Lib.hid ht
    have HB8 := Lib.hid (HB7.out.trans (hb8.mono HB7.out.size))
    clear ht hb8
    have HLt : Hid (PLive w.heap.size w8 T s) := Lib.hid (HT8.out.live (i := 0) rfl (fun x h => h.1))
    obtain ⟨n, hn⟩ : ∃ n, s.prs.length = n := ⟨_, rfl⟩
    have HN := Lib.hid hn
    clear hn
    go_wp2_with fail
    refine (live_keys HLt.out).mono ?_
    rintro e w9 ⟨Ag, cg, ks, rfl, hcg, hp, hks, hka, hb9⟩
    simp only [HN.out] at hcg ⊢
    have hd : (s.prs.map (·.1)).Nodup := HSs.out.2.2.once
    have hkn : ks.length = n := by rw [hp.length_eq, List.length_map]; exact HN.out
    have hn100 : n ≤ 100 := by rw [← HN.out]; exact HSs.out.1
    have hkd : ks.Nodup := (hp.nodup_iff).2 hd
    have HP := Lib.hid hp
    have HKs := Lib.hid hks
    have HKa := Lib.hid hka
    have HKd := Lib.hid hkd
    have HB9 := Lib.hid hb9
    have HW8 : Hid (w.heap.size ≤ w8.heap.size ∧ Hm < w8.heap.size ∧ w8.heap.size ≤ w9.heap.size) := Lib.hid ⟨by have := HBA.out.size; have := HB8.out.size; omega, by have := HMA.out.lt; have := HB8.out.size; omega, hb9.size⟩
    have HM9 : Hid (MapP w9 Hm s.prs) := Lib.hid ((HMA.out.on HB8.out).on hb9)
    have HT9 : Hid (Tabs (fun z => (w.heap.size ≤ z ∧ z ≠ Hm) ∧ ¬ (w8.heap.size ≤ z ∧ z < w9.heap.size)) w9 [(T, s), (U, PT.new seed), (D, PT.new seed)]) := Lib.hid ((HT8.out.mono (fun x h1 h2 => ⟨h1, by omega⟩)).on hb9)
    have HBw9 : Hid (Below w.heap.size w w9) := Lib.hid (HBA.out.trans ((HB8.out.trans (hb9.mono HB8.out.size)).mono HBA.out.size))
    have hml9 := HM9.out.len
    have hml9' := fun ty => (hml9 ty)
    rw [HN.out] at hml9
    clear hp hks hka hkd hb9 hml9' HT7 HB7
    have jn : ((n : Int) != (n : Int)) = false := by simp
    go_wp2_with fail
    refine (live_len (HLt.out.on HB9.out)).mono ?_
    rintro e wx ⟨rfl, rfl⟩
    simp only [HN.out]
    have HUD0 : Hid (UpDown (fun z => (w.heap.size ≤ z ∧ z ≠ Hm) ∧ ¬ (w8.heap.size ≤ z ∧ z < w9.heap.size)) w9 w9 T U D seed s (PT.new seed) (PT.new seed) ks 0) := Lib.hid ⟨HT9.out, ⟨rfl, rfl⟩, by rw [show (PT.new seed).prs = [] from kn_none 8]; simp, by rw [show (PT.new seed).prs = [] from kn_none 8]; simp, Chg.refl⟩
    generalize PT.new seed = s0 at *
    clear HT9 HT8
    go_wp2_with fail
    clear jn hml9
    go_loopw [15] (fun ix wr => ∃ (i : Nat) (u d : PT), ix = .int .i64 (i : Int) ∧ i ≤ n ∧ Hid (UpDown (fun z => (w.heap.size ≤ z ∧ z ≠ Hm) ∧ ¬ (w8.heap.size ≤ z ∧ z < w9.heap.size)) w9 wr T U D seed s u d ks i)) (fun ix _ => n - (intOf ix).toNat)
    case atStart => exact ⟨0, s0, s0, rfl, Nat.zero_le _, HUD0⟩
    case round =>
      clear HUD0 s0
      obtain ⟨i, u, d, rfl, hi, HU⟩ := hrel
      rename World => wr
      have HBr : Hid (Below w.heap.size w wr) := Lib.hid (HBw9.out.trans (HU.out.chg.below HBw9.out.size (fun i h => h.1.1)))
      have hsr := HU.out.chg.size
      by_cases hlt : i < n
      · have j0 : (i : Int) < (n : Int) := by omega
        have HKey : Hid (∀ (j : Nat) (k : List UInt8), ks[j]? = some k → ∃ (g : Nat) (Ak : Option Addr) (q : Nat), Ag = some ⟨g, 0, none⟩ ∧ k.length ≤ q ∧ 0 < k.length ∧ k.length ≤ 64 ∧ (∀ b, (Value.slice Ak k.length q).ownBlock = some b → ¬ ((w.heap.size ≤ b ∧ b ≠ Hm) ∧ ¬ (w8.heap.size ≤ b ∧ b < w9.heap.size))) ∧ ∀ V, Chg (fun z => (w.heap.size ≤ z ∧ z ≠ Hm) ∧ ¬ (w8.heap.size ≤ z ∧ z < w9.heap.size)) w9 V → V.cell? ⟨g, j, none⟩ = some (.slice Ak k.length q) ∧ Bs V w9.heap.size (.slice Ak k.length q) k) := Lib.hid (fun j k hk => by
          obtain ⟨g, hg, hg1, hg2, Ak, q, hc, hq, hw⟩ := HKa.out j k hk
          obtain ⟨p, hpm, hpe⟩ := List.mem_map.1 (HP.out.mem_iff.1 (List.mem_of_getElem? hk))
          have hkl := HSs.out.2.2.keys p hpm
          rw [hpe] at hkl
          have hne : k ≠ [] := by intro e; rw [e] at hkl; simp at hkl
          obtain ⟨b, o, hAk, ⟨hb1, hb2⟩, hcell, hfz⟩ := hw hne
          have hbl : b < w9.heap.size := by
            obtain ⟨x, r, hx⟩ : ∃ x r, k = x :: r := by cases k with | nil => exact absurd rfl hne | cons x r => exact ⟨x, r, rfl⟩
            exact fblock_of_cell (hcell 0 (bv x) (by rw [hx]; rfl))
          refine ⟨g, Ak, q, hg, hq, hkl.1, hkl.2, fun b' hb' c => ?_, fun V hV => ⟨(hV.cell (p := ⟨g, j, none⟩) hg2 (fun c => c.2 ⟨hg1, hg2⟩)).trans hc, Ak, q, rfl, hq, fun hx => ⟨b, o, hAk, hbl, fun j' u' hu => (hV.cell (p := ⟨b, o + j', none⟩) hbl (fun c => c.2 ⟨hb1, hbl⟩)).trans (hcell j' u' hu)⟩⟩⟩
          rw [hAk] at hb'
          injection hb' with hb'
          simp only at hb'
          subst hb'
          exact c.2 ⟨hb1, hbl⟩)
        obtain ⟨k, hk⟩ : ∃ k, ks[i]? = some k := ⟨_, List.getElem?_eq_getElem (by omega)⟩
        obtain ⟨g, Ak, q, hAg, hkq, hk1, hk2, hko, hkV⟩ := HKey.out i k hk
        subst hAg
        obtain ⟨c1', hBs1⟩ := hkV wr HU.out.chg
        have HBs1 := Lib.hid hBs1
        have HkV := Lib.hid hkV
        have HKo := Lib.hid hko
        have HK := Lib.hid hk
        have HLr : Hid (PLive w.heap.size wr T s) := Lib.hid (HU.out.tabs.live (i := 0) rfl (fun x h => h.1.1))
        have hw9r : w9.heap.size ≤ wr.heap.size := HU.out.chg.size
        clear hBs1 hkV hko
        go_wp2_with fail
        refine (live_get HLr.out _ k (HBs1.out.mono hw9r) (by omega)).mono ?_
        rintro e wb ⟨v, is, rfl, hg, hbb⟩
        obtain ⟨rfl, rfl⟩ := valOf_gets HSs.out.2.2.once (HP.out.mem_iff.1 (List.mem_of_getElem? HK.out)) hg
        have HG := Lib.hid hg
        have HBb := Lib.hid hbb
        have HCb : Hid (Chg (fun z => (w.heap.size ≤ z ∧ z ≠ Hm) ∧ ¬ (w8.heap.size ≤ z ∧ z < w9.heap.size)) w9 wb) := Lib.hid (HU.out.chg.trans (Chg.of_below (M := fun _ => False) hbb) (fun _ e => e.elim))
        have HMb : Hid (MapP wb Hm s.prs) := Lib.hid (HM9.out.chg HCb.out (fun c => c.1.2 rfl))
        clear hg hbb c1'
        obtain ⟨c2', hBs2⟩ := HkV.out wb HCb.out
        have hcv : (convert 30 9 (.slice Ak k.length q)).run Try.prog wb = .ok (.string ⟨k.toArray⟩) wb := by
          obtain ⟨A2, q2, he, _, hr⟩ := hBs2
          injection he with e1 e2 e3
          subst e1
          exact convert_rd (P := Try.prog) hr q 30 5 9 Try.underlying30 Try.underlying5 Try.underlying9
        have hlk := HMb.out.look (k := k) (by unfold maxLen; omega) HG.out
        obtain ⟨val, hval⟩ : ∃ val, valOf s.prs k = val := ⟨_, rfl⟩
        have HVal := Lib.hid hval
        rw [hval] at hlk
        simp only [hval]
        have jv : ((val : Int) != (val : Int)) = false := by simp
        clear hval hBs2
        go_upto_region 34 with fail
        go_cut [163] from 136 to 163 (fun x wx => x = .bool false ∧ Hid (Below wb.heap.size wb wx))
        case first =>
          by_cases hz : i = 0
          · have jz : ¬ (0 : Int) < (i : Int) := by omega
            have jzn : ¬ 0 < i := by omega
            have HSB : Hid (∀ V, Below wb.heap.size wb V → True) := Lib.hid (fun _ _ => trivial)
            clear hz hcv hlk c2'
            refine wp_region_noPanic ?_
            have hb0 : Below wb.heap.size wb wb.drew := (Below.refl _ _).drew
            refine wp_region_held_drew (S := fun _ : World => True) (by kernel_rfl) (HSB.out _ hb0) (fun hHeld => ?_)
            generalize World.drew wb = V0 at *
            refine wpAnyH_take (i := 0) (v := ?_) opAt_0 (by kernel_rfl) (by kernel_rfl) (by kernel_rfl) (fun _ _ _ h => h) (Or.inl ⟨by rfl, ?_⟩) (by assumption) ?_
            rotate_left
            · (intro w hSw; have _ := hSw; go_simp; try with_reducible rfl)
            (try simp only [Act.put, List.setIfInBounds_toArray]); (try dsimp only [List.set_cons_zero, List.set_cons_succ])
            refine wpAnyH_take (i := 1) (v := ?_) opAt_1 (by kernel_rfl) (by kernel_rfl) (by kernel_rfl) (fun _ _ _ h => h) (Or.inl ⟨by rfl, ?_⟩) (by assumption) ?_
            rotate_left
            · (intro w hSw; have _ := hSw; go_simp; try with_reducible rfl)
            (try simp only [Act.put, List.setIfInBounds_toArray]); (try dsimp only [List.set_cons_zero, List.set_cons_succ])
            refine wpAnyH_take (i := 2) (v := ?_) opAt_2 (by kernel_rfl) (by kernel_rfl) (by kernel_rfl) (fun _ _ _ h => h) (Or.inl ⟨by rfl, ?_⟩) (by assumption) ?_
            rotate_left
            · (intro w hSw; have _ := hSw; go_simp; try with_reducible rfl)
            (try simp only [Act.put, List.setIfInBounds_toArray]); (try dsimp only [List.set_cons_zero, List.set_cons_succ])
            refine wpAnyH_take (i := 3) (v := ?_) opAt_3 (by kernel_rfl) (by kernel_rfl) (by kernel_rfl) (fun _ _ _ h => h) (Or.inl ⟨by rfl, ?_⟩) (by assumption) ?_
            rotate_left
            · (intro w hSw; have _ := hSw; go_simp; try with_reducible rfl)
            (try simp only [Act.put, List.setIfInBounds_toArray]); (try dsimp only [List.set_cons_zero, List.set_cons_succ])
            refine wpAnyH_take (i := 4) (v := ?_) opAt_4 (by kernel_rfl) (by kernel_rfl) (by kernel_rfl) (fun _ _ _ h => h) (Or.inl ⟨by rfl, ?_⟩) (by assumption) ?_
            rotate_left
            · (intro w hSw; have _ := hSw; go_simp; try with_reducible rfl)
            (try simp only [Act.put, List.setIfInBounds_toArray]); (try dsimp only [List.set_cons_zero, List.set_cons_succ])
            refine wpAnyH_take (i := 5) (v := ?_) opAt_5 (by kernel_rfl) (by kernel_rfl) (by kernel_rfl) (fun _ _ _ h => h) (Or.inl ⟨by rfl, ?_⟩) (by assumption) ?_
            rotate_left
            · (intro w hSw; have _ := hSw; go_simp; try with_reducible rfl)
            (try simp only [Act.put, List.setIfInBounds_toArray]); (try dsimp only [List.set_cons_zero, List.set_cons_succ])
            refine wpAnyH_take (i := 6) (v := ?_) opAt_6 (by kernel_rfl) (by kernel_rfl) (by kernel_rfl) (fun _ _ _ h => h) (Or.inl ⟨by rfl, ?_⟩) (by assumption) ?_
            rotate_left
            · (intro w hSw; have _ := hSw; go_simp; try with_reducible rfl)
            (try simp only [Act.put, List.setIfInBounds_toArray]); (try dsimp only [List.set_cons_zero, List.set_cons_succ])
            refine wpAnyH_take (i := 7) (v := ?_) opAt_7 (by kernel_rfl) (by kernel_rfl) (by kernel_rfl) (fun _ _ _ h => h) (Or.inl ⟨by rfl, ?_⟩) (by assumption) ?_
            rotate_left
            · (intro w hSw; have _ := hSw; go_simp; try with_reducible rfl)
            (try simp only [Act.put, List.setIfInBounds_toArray]); (try dsimp only [List.set_cons_zero, List.set_cons_succ])
            refine wpAnyH_take (i := 8) (v := ?_) opAt_8 (by kernel_rfl) (by kernel_rfl) (by kernel_rfl) (fun _ _ _ h => h) (Or.inl ⟨by rfl, ?_⟩) (by assumption) ?_
            rotate_left
            · (intro w hSw; have _ := hSw; go_simp; try with_reducible rfl)
            (try simp only [Act.put, List.setIfInBounds_toArray]); (try dsimp only [List.set_cons_zero, List.set_cons_succ])
            refine wpAnyH_take (i := 9) (v := ?_) opAt_9 (by kernel_rfl) (by kernel_rfl) (by kernel_rfl) (fun _ _ _ h => h) (Or.inl ⟨by rfl, ?_⟩) (by assumption) ?_
            rotate_left
            · (intro w hSw; have _ := hSw; go_simp; try with_reducible rfl)
            (try simp only [Act.put, List.setIfInBounds_toArray]); (try dsimp only [List.set_cons_zero, List.set_cons_succ])
            refine wpAnyH_take (i := 10) (v := ?_) opAt_10 (by kernel_rfl) (by kernel_rfl) (by kernel_rfl) (fun _ _ _ h => h) (Or.inl ⟨by rfl, ?_⟩) (by assumption) ?_
            rotate_left
            · (intro w hSw; have _ := hSw; go_simp; try with_reducible rfl)
            (try simp only [Act.put, List.setIfInBounds_toArray]); (try dsimp only [List.set_cons_zero, List.set_cons_succ])
            refine wpAnyH_take (i := 11) (v := ?_) opAt_11 (by kernel_rfl) (by kernel_rfl) (by kernel_rfl) (fun _ _ _ h => h) (Or.inl ⟨by rfl, ?_⟩) (by assumption) ?_
            rotate_left
            · (intro w hSw; have _ := hSw; go_simp; try with_reducible rfl)
            (try simp only [Act.put, List.setIfInBounds_toArray]); (try dsimp only [List.set_cons_zero, List.set_cons_succ])
            refine wpAnyH_take (i := 12) (v := ?_) opAt_12 (by kernel_rfl) (by kernel_rfl) (by kernel_rfl) (fun _ _ _ h => h) (Or.inl ⟨by rfl, ?_⟩) (by assumption) ?_
            rotate_left
            · (intro w hSw; have _ := hSw; go_simp; try with_reducible rfl)
            (try simp only [Act.put, List.setIfInBounds_toArray]); (try dsimp only [List.set_cons_zero, List.set_cons_succ])
            refine wpAnyH_take (i := 13) (v := ?_) opAt_13 (by kernel_rfl) (by kernel_rfl) (by kernel_rfl) (fun _ _ _ h => h) (Or.inl ⟨by rfl, ?_⟩) (by assumption) ?_
            rotate_left
            · (intro w hSw; have _ := hSw; go_simp; try with_reducible rfl)
            (try simp only [Act.put, List.setIfInBounds_toArray]); (try dsimp only [List.set_cons_zero, List.set_cons_succ])
            refine wpAnyH_take (i := 14) (v := ?_) opAt_14 (by kernel_rfl) (by kernel_rfl) (by kernel_rfl) (fun _ _ _ h => h) (Or.inl ⟨by rfl, ?_⟩) (by assumption) ?_
            rotate_left
            · (intro w hSw; have _ := hSw; go_simp; try with_reducible rfl)
            (try simp only [Act.put, List.setIfInBounds_toArray]); (try dsimp only [List.set_cons_zero, List.set_cons_succ])
            refine wpAnyH_take (i := 15) (v := undef) opAt_15 (by kernel_rfl) (by kernel_rfl) (by kernel_rfl) (fun _ _ _ h => h) (Or.inr ⟨by rfl, rfl⟩) (by assumption) ?_
            (try simp only [Act.put, List.setIfInBounds_toArray]); (try dsimp only [List.set_cons_zero, List.set_cons_succ])
            refine wpAnyH_take (i := 16) (v := undef) opAt_16 (by kernel_rfl) (by kernel_rfl) (by kernel_rfl) (fun _ _ _ h => h) (Or.inr ⟨by rfl, rfl⟩) (by assumption) ?_
            (try simp only [Act.put, List.setIfInBounds_toArray]); (try dsimp only [List.set_cons_zero, List.set_cons_succ])
            refine wpAnyH_take (i := 17) (v := undef) opAt_17 (by kernel_rfl) (by kernel_rfl) (by kernel_rfl) (fun _ _ _ h => h) (Or.inr ⟨by rfl, rfl⟩) (by assumption) ?_
            (try simp only [Act.put, List.setIfInBounds_toArray]); (try dsimp only [List.set_cons_zero, List.set_cons_succ])
            refine wpAnyH_take (i := 18) (v := undef) opAt_18 (by kernel_rfl) (by kernel_rfl) (by kernel_rfl) (fun _ _ _ h => h) (Or.inr ⟨by rfl, rfl⟩) (by assumption) ?_
            (try simp only [Act.put, List.setIfInBounds_toArray]); (try dsimp only [List.set_cons_zero, List.set_cons_succ])
            refine wpAnyH_take (i := 19) (v := undef) opAt_19 (by kernel_rfl) (by kernel_rfl) (by kernel_rfl) (fun _ _ _ h => h) (Or.inr ⟨by rfl, rfl⟩) (by assumption) ?_
            (try simp only [Act.put, List.setIfInBounds_toArray]); (try dsimp only [List.set_cons_zero, List.set_cons_succ])
            refine wpAnyH_take (i := 20) (v := undef) opAt_20 (by kernel_rfl) (by kernel_rfl) (by kernel_rfl) (fun _ _ _ h => h) (Or.inr ⟨by rfl, rfl⟩) (by assumption) ?_
            (try simp only [Act.put, List.setIfInBounds_toArray]); (try dsimp only [List.set_cons_zero, List.set_cons_succ])
            refine wpAnyH_take (i := 21) (v := undef) opAt_21 (by kernel_rfl) (by kernel_rfl) (by kernel_rfl) (fun _ _ _ h => h) (Or.inr ⟨by rfl, rfl⟩) (by assumption) ?_
            (try simp only [Act.put, List.setIfInBounds_toArray]); (try dsimp only [List.set_cons_zero, List.set_cons_succ])
            refine wpAnyH_take (i := 22) (v := undef) opAt_22 (by kernel_rfl) (by kernel_rfl) (by kernel_rfl) (fun _ _ _ h => h) (Or.inr ⟨by rfl, rfl⟩) (by assumption) ?_
            (try simp only [Act.put, List.setIfInBounds_toArray]); (try dsimp only [List.set_cons_zero, List.set_cons_succ])
            refine wpAnyH_take (i := 23) (v := undef) opAt_23 (by kernel_rfl) (by kernel_rfl) (by kernel_rfl) (fun _ _ _ h => h) (Or.inr ⟨by rfl, rfl⟩) (by assumption) ?_
            (try simp only [Act.put, List.setIfInBounds_toArray]); (try dsimp only [List.set_cons_zero, List.set_cons_succ])
            refine wpAnyH_ready (rs := [24]) (by kernel_rfl) (by simp) ?_
            refine AllReadyH.cons rfl (fun K hK => ?_) AllReadyH.nil
            go_simp
            try refine ⟨fun _ h => by cases h, ?_⟩
            refine hK.out _ _ (by assumption) (fun hHeld => ?_)
            clear hK K
            (try simp only [Act.put, List.setIfInBounds_toArray]); (try dsimp only [List.set_cons_zero, List.set_cons_succ])
            refine wpAnyH_take (i := 25) (v := undef) opAt_25 (by kernel_rfl) (by kernel_rfl) (by kernel_rfl) (fun _ _ _ h => h) (Or.inr ⟨by rfl, rfl⟩) (by assumption) ?_
            (try simp only [Act.put, List.setIfInBounds_toArray]); (try dsimp only [List.set_cons_zero, List.set_cons_succ])
            refine wpAnyH_take (i := 26) (v := ?_) opAt_26 (by kernel_rfl) (by kernel_rfl) (by kernel_rfl) (fun _ _ _ h => h) (Or.inl ⟨by rfl, ?_⟩) (by assumption) ?_
            rotate_left
            · (intro w hSw; have _ := hSw; go_simp; try with_reducible rfl)
            (try simp only [Act.put, List.setIfInBounds_toArray]); (try dsimp only [List.set_cons_zero, List.set_cons_succ])
            refine wpAnyH_take (i := 27) (v := ?_) opAt_27 (by kernel_rfl) (by kernel_rfl) (by kernel_rfl) (fun _ _ _ h => h) (Or.inl ⟨by rfl, ?_⟩) (by assumption) ?_
            rotate_left
            · (intro w hSw; have _ := hSw; go_simp; try with_reducible rfl)
            (try simp only [Act.put, List.setIfInBounds_toArray]); (try dsimp only [List.set_cons_zero, List.set_cons_succ])
            refine wpAnyH_done (by kernel_rfl) ?_ _
            refine NoPanic.normal ?_
            go_wp2_with fail
            go_meet
            case rel => exact ⟨rfl, Lib.hid hb0⟩
          · have jz : (0 : Int) < (i : Int) := by omega
            have jzn : 0 < i := by omega
            obtain ⟨j, hj⟩ : ∃ j, i = j + 1 := ⟨i - 1, by omega⟩
            have js : IntKind.i64.wrap ((i : Int) - 1) = (j : Int) := by rw [IntWalk.i64_in _ (by omega)]; omega
            have jl : (j : Int) < (n : Int) := by omega
            obtain ⟨k', hk'⟩ : ∃ k', ks[j]? = some k' := ⟨_, List.getElem?_eq_getElem (by omega)⟩
            obtain ⟨g', Ak', q', hAg', hkq', hk1', hk2', _, hkV'⟩ := HKey.out j k' hk'
            obtain rfl : g = g' := by injection hAg' with e; injection e
            have hkl : Go.Lib.compareBytes k' k < 0 := by
              have hpw := List.pairwise_iff_getElem.1 HKs.out
              obtain ⟨l1', e1⟩ := List.getElem?_eq_some_iff.1 hk'
              obtain ⟨l2', e2⟩ := List.getElem?_eq_some_iff.1 HK.out
              have := hpw j i l1' l2' (by omega)
              rw [e1, e2] at this
              exact this
            have HSB : Hid (∀ V, Below wb.heap.size wb V → V.cell? ⟨g, j, none⟩ = some (.slice Ak' k'.length q') ∧ V.cell? ⟨g, i, none⟩ = some (.slice Ak k.length q)) := Lib.hid (fun V hV => by
              have hc := HCb.out.trans (Chg.of_below (M := fun _ => False) hV) (fun _ e => e.elim)
              exact ⟨(hkV' V hc).1, (HkV.out V hc).1⟩)
            have HCmp : Hid (∀ V, Below wb.heap.size wb V → Bs V w9.heap.size (.slice Ak' k'.length q') k' ∧ Bs V w9.heap.size (.slice Ak k.length q) k) := Lib.hid (fun V hV => by
              have hc := HCb.out.trans (Chg.of_below (M := fun _ => False) hV) (fun _ e => e.elim)
              exact ⟨(hkV' V hc).2, (HkV.out V hc).2⟩)
            obtain ⟨cmp, hcmp⟩ : ∃ cmp, Go.Lib.compareBytes k' k = cmp := ⟨_, rfl⟩
            have hcn : ¬ (0 : Int) ≤ cmp := by rw [← hcmp]; omega
            have HCd : Hid (decide ((0 : Int) ≤ cmp) = false) := Lib.hid (by simpa using hcn)
            have HCn := Lib.hid hcmp
            clear hk' hkV' hkl hcmp hcv hlk c2' hj hz
            refine wp_region_noPanic ?_
            have hb0 : Below wb.heap.size wb wb.drew := (Below.refl _ _).drew
            refine wp_region_held_drew (S := fun V : World => V.cell? ⟨g, j, none⟩ = some (.slice Ak' k'.length q') ∧ V.cell? ⟨g, i, none⟩ = some (.slice Ak k.length q)) (by kernel_rfl) (HSB.out _ hb0) (fun hHeld => ?_)
            generalize World.drew wb = V0 at *
            refine wpAnyH_take (i := 0) (v := ?_) opAt_0 (by kernel_rfl) (by kernel_rfl) (by kernel_rfl) (fun _ _ _ h => h) (Or.inl ⟨by rfl, ?_⟩) (by assumption) ?_
            rotate_left
            · (intro w hSw; obtain ⟨s0, s1⟩ := hSw; go_simp; try with_reducible rfl)
            (try simp only [Act.put, List.setIfInBounds_toArray]); (try dsimp only [List.set_cons_zero, List.set_cons_succ])
            refine wpAnyH_take (i := 1) (v := ?_) opAt_1 (by kernel_rfl) (by kernel_rfl) (by kernel_rfl) (fun _ _ _ h => h) (Or.inl ⟨by rfl, ?_⟩) (by assumption) ?_
            rotate_left
            · (intro w hSw; obtain ⟨s0, s1⟩ := hSw; go_simp; try with_reducible rfl)
            (try simp only [Act.put, List.setIfInBounds_toArray]); (try dsimp only [List.set_cons_zero, List.set_cons_succ])
            refine wpAnyH_take (i := 2) (v := ?_) opAt_2 (by kernel_rfl) (by kernel_rfl) (by kernel_rfl) (fun _ _ _ h => h) (Or.inl ⟨by rfl, ?_⟩) (by assumption) ?_
            rotate_left
            · (intro w hSw; obtain ⟨s0, s1⟩ := hSw; go_simp; try with_reducible rfl)
            (try simp only [Act.put, List.setIfInBounds_toArray]); (try dsimp only [List.set_cons_zero, List.set_cons_succ])
            refine wpAnyH_take (i := 3) (v := ?_) opAt_3 (by kernel_rfl) (by kernel_rfl) (by kernel_rfl) (fun _ _ _ h => h) (Or.inl ⟨by rfl, ?_⟩) (by assumption) ?_
            rotate_left
            · (intro w hSw; obtain ⟨s0, s1⟩ := hSw; go_simp; try with_reducible rfl)
            (try simp only [Act.put, List.setIfInBounds_toArray]); (try dsimp only [List.set_cons_zero, List.set_cons_succ])
            refine wpAnyH_take (i := 4) (v := ?_) opAt_4 (by kernel_rfl) (by kernel_rfl) (by kernel_rfl) (fun _ _ _ h => h) (Or.inl ⟨by rfl, ?_⟩) (by assumption) ?_
            rotate_left
            · (intro w hSw; obtain ⟨s0, s1⟩ := hSw; go_simp; try with_reducible rfl)
            (try simp only [Act.put, List.setIfInBounds_toArray]); (try dsimp only [List.set_cons_zero, List.set_cons_succ])
            refine wpAnyH_take (i := 5) (v := ?_) opAt_5 (by kernel_rfl) (by kernel_rfl) (by kernel_rfl) (fun _ _ _ h => h) (Or.inl ⟨by rfl, ?_⟩) (by assumption) ?_
            rotate_left
            · (intro w hSw; obtain ⟨s0, s1⟩ := hSw; go_simp; try with_reducible rfl)
            (try simp only [Act.put, List.setIfInBounds_toArray]); (try dsimp only [List.set_cons_zero, List.set_cons_succ])
            refine wpAnyH_take (i := 6) (v := ?_) opAt_6 (by kernel_rfl) (by kernel_rfl) (by kernel_rfl) (fun _ _ _ h => h) (Or.inl ⟨by rfl, ?_⟩) (by assumption) ?_
            rotate_left
            · (intro w hSw; obtain ⟨s0, s1⟩ := hSw; go_simp; try with_reducible rfl)
            (try simp only [Act.put, List.setIfInBounds_toArray]); (try dsimp only [List.set_cons_zero, List.set_cons_succ])
            refine wpAnyH_take (i := 7) (v := ?_) opAt_7 (by kernel_rfl) (by kernel_rfl) (by kernel_rfl) (fun _ _ _ h => h) (Or.inl ⟨by rfl, ?_⟩) (by assumption) ?_
            rotate_left
            · (intro w hSw; obtain ⟨s0, s1⟩ := hSw; go_simp; try with_reducible rfl)
            (try simp only [Act.put, List.setIfInBounds_toArray]); (try dsimp only [List.set_cons_zero, List.set_cons_succ])
            refine wpAnyH_take (i := 8) (v := ?_) opAt_8 (by kernel_rfl) (by kernel_rfl) (by kernel_rfl) (fun _ _ _ h => h) (Or.inl ⟨by rfl, ?_⟩) (by assumption) ?_
            rotate_left
            · (intro w hSw; obtain ⟨s0, s1⟩ := hSw; go_simp; try with_reducible rfl)
            (try simp only [Act.put, List.setIfInBounds_toArray]); (try dsimp only [List.set_cons_zero, List.set_cons_succ])
            refine wpAnyH_take (i := 9) (v := ?_) opAt_9 (by kernel_rfl) (by kernel_rfl) (by kernel_rfl) (fun _ _ _ h => h) (Or.inl ⟨by rfl, ?_⟩) (by assumption) ?_
            rotate_left
            · (intro w hSw; obtain ⟨s0, s1⟩ := hSw; go_simp; try with_reducible rfl)
            (try simp only [Act.put, List.setIfInBounds_toArray]); (try dsimp only [List.set_cons_zero, List.set_cons_succ])
            refine wpAnyH_take (i := 10) (v := ?_) opAt_10 (by kernel_rfl) (by kernel_rfl) (by kernel_rfl) (fun _ _ _ h => h) (Or.inl ⟨by rfl, ?_⟩) (by assumption) ?_
            rotate_left
            · (intro w hSw; obtain ⟨s0, s1⟩ := hSw; go_simp; try with_reducible rfl)
            (try simp only [Act.put, List.setIfInBounds_toArray]); (try dsimp only [List.set_cons_zero, List.set_cons_succ])
            refine wpAnyH_take (i := 11) (v := ?_) opAt_11 (by kernel_rfl) (by kernel_rfl) (by kernel_rfl) (fun _ _ _ h => h) (Or.inl ⟨by rfl, ?_⟩) (by assumption) ?_
            rotate_left
            · (intro w hSw; obtain ⟨s0, s1⟩ := hSw; go_simp; try with_reducible rfl)
            (try simp only [Act.put, List.setIfInBounds_toArray]); (try dsimp only [List.set_cons_zero, List.set_cons_succ])
            refine wpAnyH_take (i := 12) (v := ?_) opAt_12 (by kernel_rfl) (by kernel_rfl) (by kernel_rfl) (fun _ _ _ h => h) (Or.inl ⟨by rfl, ?_⟩) (by assumption) ?_
            rotate_left
            · (intro w hSw; obtain ⟨s0, s1⟩ := hSw; go_simp; try with_reducible rfl)
            (try simp only [Act.put, List.setIfInBounds_toArray]); (try dsimp only [List.set_cons_zero, List.set_cons_succ])
            refine wpAnyH_take (i := 13) (v := ?_) opAt_13 (by kernel_rfl) (by kernel_rfl) (by kernel_rfl) (fun _ _ _ h => h) (Or.inl ⟨by rfl, ?_⟩) (by assumption) ?_
            rotate_left
            · (intro w hSw; obtain ⟨s0, s1⟩ := hSw; go_simp; try with_reducible rfl)
            (try simp only [Act.put, List.setIfInBounds_toArray]); (try dsimp only [List.set_cons_zero, List.set_cons_succ])
            refine wpAnyH_take (i := 14) (v := ?_) opAt_14 (by kernel_rfl) (by kernel_rfl) (by kernel_rfl) (fun _ _ _ h => h) (Or.inl ⟨by rfl, ?_⟩) (by assumption) ?_
            rotate_left
            · (intro w hSw; obtain ⟨s0, s1⟩ := hSw; go_simp; try with_reducible rfl)
            (try simp only [Act.put, List.setIfInBounds_toArray]); (try dsimp only [List.set_cons_zero, List.set_cons_succ])
            refine wpAnyH_take (i := 15) (v := ?_) opAt_15 (by kernel_rfl) (by kernel_rfl) (by kernel_rfl) (fun _ _ _ h => h) (Or.inl ⟨by rfl, ?_⟩) (by assumption) ?_
            rotate_left
            · (intro w hSw; obtain ⟨s0, s1⟩ := hSw; go_simp; try with_reducible rfl)
            (try simp only [Act.put, List.setIfInBounds_toArray]); (try dsimp only [List.set_cons_zero, List.set_cons_succ])
            refine wpAnyH_take (i := 16) (v := ?_) opAt_16 (by kernel_rfl) (by kernel_rfl) (by kernel_rfl) (fun _ _ _ h => h) (Or.inl ⟨by rfl, ?_⟩) (by assumption) ?_
            rotate_left
            · (intro w hSw; obtain ⟨s0, s1⟩ := hSw; go_simp; try with_reducible rfl)
            (try simp only [Act.put, List.setIfInBounds_toArray]); (try dsimp only [List.set_cons_zero, List.set_cons_succ])
            refine wpAnyH_take (i := 17) (v := ?_) opAt_17 (by kernel_rfl) (by kernel_rfl) (by kernel_rfl) (fun _ _ _ h => h) (Or.inl ⟨by rfl, ?_⟩) (by assumption) ?_
            rotate_left
            · (intro w hSw; obtain ⟨s0, s1⟩ := hSw; go_simp; try with_reducible rfl)
            (try simp only [Act.put, List.setIfInBounds_toArray]); (try dsimp only [List.set_cons_zero, List.set_cons_succ])
            refine wpAnyH_take (i := 18) (v := ?_) opAt_18 (by kernel_rfl) (by kernel_rfl) (by kernel_rfl) (fun _ _ _ h => h) (Or.inl ⟨by rfl, ?_⟩) (by assumption) ?_
            rotate_left
            · (intro w hSw; obtain ⟨s0, s1⟩ := hSw; go_simp; try with_reducible rfl)
            (try simp only [Act.put, List.setIfInBounds_toArray]); (try dsimp only [List.set_cons_zero, List.set_cons_succ])
            refine wpAnyH_take (i := 19) (v := ?_) opAt_19 (by kernel_rfl) (by kernel_rfl) (by kernel_rfl) (fun _ _ _ h => h) (Or.inl ⟨by rfl, ?_⟩) (by assumption) ?_
            rotate_left
            · (intro w hSw; obtain ⟨s0, s1⟩ := hSw; go_simp; try with_reducible rfl)
            (try simp only [Act.put, List.setIfInBounds_toArray]); (try dsimp only [List.set_cons_zero, List.set_cons_succ])
            refine wpAnyH_take (i := 20) (v := ?_) opAt_20 (by kernel_rfl) (by kernel_rfl) (by kernel_rfl) (fun _ _ _ h => h) (Or.inl ⟨by rfl, ?_⟩) (by assumption) ?_
            rotate_left
            · (intro w hSw; obtain ⟨s0, s1⟩ := hSw; go_simp; try with_reducible rfl)
            (try simp only [Act.put, List.setIfInBounds_toArray]); (try dsimp only [List.set_cons_zero, List.set_cons_succ])
            refine wpAnyH_take (i := 21) (v := ?_) opAt_21 (by kernel_rfl) (by kernel_rfl) (by kernel_rfl) (fun _ _ _ h => h) (Or.inl ⟨by rfl, ?_⟩) (by assumption) ?_
            rotate_left
            · (intro w hSw; obtain ⟨s0, s1⟩ := hSw; go_simp; try with_reducible rfl)
            (try simp only [Act.put, List.setIfInBounds_toArray]); (try dsimp only [List.set_cons_zero, List.set_cons_succ])
            refine wpAnyH_take (i := 22) (v := ?_) opAt_22 (by kernel_rfl) (by kernel_rfl) (by kernel_rfl) (fun _ _ _ h => h) (Or.inl ⟨by rfl, ?_⟩) (by assumption) ?_
            rotate_left
            · (intro w hSw; obtain ⟨s0, s1⟩ := hSw; go_simp; try with_reducible rfl)
            (try simp only [Act.put, List.setIfInBounds_toArray]); (try dsimp only [List.set_cons_zero, List.set_cons_succ])
            refine wpAnyH_take (i := 23) (v := ?_) opAt_23 (by kernel_rfl) (by kernel_rfl) (by kernel_rfl) (fun _ _ _ h => h) (Or.inl ⟨by rfl, ?_⟩) (by assumption) ?_
            rotate_left
            · (intro w hSw; obtain ⟨s0, s1⟩ := hSw; go_simp; try with_reducible rfl)
            (try simp only [Act.put, List.setIfInBounds_toArray]); (try dsimp only [List.set_cons_zero, List.set_cons_succ])
            refine wpAnyH_ready (rs := [24]) (by kernel_rfl) (by simp) ?_
            refine AllReadyH.cons rfl (fun K hK => ?_) AllReadyH.nil
            go_simp
            refine (kcompare_b _ _ k' k _ _ _ (HCmp.out _ hb0).1 (HCmp.out _ hb0).2).mono ?_
            rintro e V1 ⟨rfl, rfl⟩
            rw [HCn.out]
            have hb1 := hb0
            go_wp2_with fail
            refine hK.out _ _ (HSB.out _ hb1) (fun hHeld => ?_)
            clear hK K
            (try simp only [Act.put, List.setIfInBounds_toArray]); (try dsimp only [List.set_cons_zero, List.set_cons_succ])
            refine wpAnyH_take (i := 25) (v := ?_) opAt_25 (by kernel_rfl) (by kernel_rfl) (by kernel_rfl) (fun _ _ _ h => h) (Or.inl ⟨by rfl, ?_⟩) (by assumption) ?_
            rotate_left
            · (intro w hSw; obtain ⟨s0, s1⟩ := hSw; go_simp; try with_reducible rfl)
            (try simp only [Act.put, List.setIfInBounds_toArray]); (try dsimp only [List.set_cons_zero, List.set_cons_succ])
            refine wpAnyH_take (i := 26) (v := ?_) opAt_26 (by kernel_rfl) (by kernel_rfl) (by kernel_rfl) (fun _ _ _ h => h) (Or.inl ⟨by rfl, ?_⟩) (by assumption) ?_
            rotate_left
            · (intro w hSw; obtain ⟨s0, s1⟩ := hSw; go_simp; try with_reducible rfl)
            (try simp only [Act.put, List.setIfInBounds_toArray]); (try dsimp only [List.set_cons_zero, List.set_cons_succ])
            refine wpAnyH_take (i := 27) (v := ?_) opAt_27 (by kernel_rfl) (by kernel_rfl) (by kernel_rfl) (fun _ _ _ h => h) (Or.inl ⟨by rfl, ?_⟩) (by assumption) ?_
            rotate_left
            · (intro w hSw; obtain ⟨s0, s1⟩ := hSw; go_simp; try with_reducible rfl)
            (try simp only [Act.put, List.setIfInBounds_toArray]); (try dsimp only [List.set_cons_zero, List.set_cons_succ])
            refine wpAnyH_done (by kernel_rfl) ?_ _
            refine NoPanic.normal ?_
            go_wp2_with fail
            go_meet
            case rel => exact ⟨by first | rfl | rw [HCd.out], Lib.hid hb0⟩
        case rest =>
          obtain ⟨rfl, HBx⟩ := hcut
          generalize wc = wd at *
          have HCd : Hid (Chg (fun z => (w.heap.size ≤ z ∧ z ≠ Hm) ∧ ¬ (w8.heap.size ≤ z ∧ z < w9.heap.size)) w9 wd) := Lib.hid (HCb.out.trans (Chg.of_below (M := fun _ => False) HBx.out) (fun _ e => e.elim))
          have hbd : Below wr.heap.size wr wd := HBb.out.trans (HBx.out.mono HBb.out.size)
          have HTd : Hid (Tabs (fun z => (w.heap.size ≤ z ∧ z ≠ Hm) ∧ ¬ (w8.heap.size ≤ z ∧ z < w9.heap.size)) wd [(T, s), (U, u), (D, d)]) := Lib.hid (HU.out.tabs.on hbd)
          obtain ⟨c3', hBs3⟩ := HkV.out wd HCd.out
          have HBs3 := Lib.hid hBs3
          have HNd : Hid (∀ V : World, w9.heap.size ≤ V.heap.size → ∀ x, V.heap.size ≤ x → (w.heap.size ≤ x ∧ x ≠ Hm) ∧ ¬ (w8.heap.size ≤ x ∧ x < w9.heap.size)) := Lib.hid (fun V hV x hx => by have := HW8.out; exact ⟨⟨by omega, by omega⟩, by omega⟩)
          have hs9d : w9.heap.size ≤ wd.heap.size := HCd.out.size
          have hval9 : val < 18446744073709551616 := by
            rw [← HVal.out]
            exact HSs.out.2.2.nums _ (valOf_mem (HP.out.mem_iff.1 (List.mem_of_getElem? HK.out)))
          have hul : u.prs.length ≤ 100 := by rw [HU.out.up.length_eq, List.length_map, List.length_take]; omega
          have hdl : d.prs.length ≤ 100 := by rw [HU.out.down.length_eq, List.length_map, List.length_take]; omega
          have hVk : Vk k := ⟨hk1, hk2⟩
          clear hcv hlk c2' hBs3 jv
          go_wp2_with fail
          refine (tabs_set (i := 1) HTd.out rfl _ k (HBs3.out.mono hs9d) (by omega) val hval9 (by omega) (fun _ b hb => HKo.out b hb) (HNd.out wd hs9d)).mono ?_
          rintro e we ⟨r, u2, rfl, hr, hse, ht, nb⟩
          have hpu : List.Perm u2.prs ((k, val) :: remA u.prs k) := by
            rcases hr with ⟨_, _, h⟩ | ⟨h, _⟩
            · exact h
            · exact absurd hVk h
          have HPu := Lib.hid (take_step (P' := u2.prs) HKd.out HK.out HU.out.up (by rw [HVal.out]; exact hpu))
          have HSu := Lib.hid (hse.trans HU.out.seed.1)
          have HTe : Hid (Tabs (fun z => (w.heap.size ≤ z ∧ z ≠ Hm) ∧ ¬ (w8.heap.size ≤ z ∧ z < w9.heap.size)) we [(T, s), (U, u2), (D, d)]) := Lib.hid ht
          have HCe := Lib.hid (HCd.out.trans nb (fun i e => .inl e))
          have hs9e : w9.heap.size ≤ we.heap.size := HCe.out.size
          clear hr hse ht nb hpu c3'
          obtain ⟨kb, hkb⟩ : ∃ kb, ks.reverse[i]? = some kb := ⟨_, List.getElem?_eq_getElem (by rw [List.length_reverse]; omega)⟩
          obtain ⟨m, hm⟩ : ∃ m, n - 1 - i = m := ⟨_, rfl⟩
          have hkb' : ks[m]? = some kb := by
            rw [← hm, ← hkn, ← hkb, List.getElem?_reverse (by omega)]
          have jm1 : IntKind.i64.wrap ((n : Int) - 1) = (n : Int) - 1 := IntWalk.i64_in _ (by omega)
          have jm2 : IntKind.i64.wrap ((n : Int) - 1 - (i : Int)) = (m : Int) := by rw [IntWalk.i64_in _ (by omega)]; omega
          have jm3 : (m : Int) < (n : Int) := by omega
          obtain ⟨g2, Bk, qb, hBg, hbq, hb1, hb2, hbo, hbV⟩ := HKey.out m kb hkb'
          obtain rfl : g = g2 := by injection hBg with e; injection e
          obtain ⟨c4', hBs4⟩ := hbV we HCe.out
          have HBs4 := Lib.hid hBs4
          have HbV := Lib.hid hbV
          have HBo := Lib.hid hbo
          have HKb := Lib.hid (And.intro hkb hkb')
          have HLe : Hid (PLive w.heap.size we T s) := Lib.hid (HTe.out.live (i := 0) rfl (fun x h => h.1.1))
          clear hBs4 hbV hbo hkb hkb' hm
          go_wp2_with fail
          refine (live_get HLe.out _ kb (HBs4.out.mono hs9e) (by omega)).mono ?_
          rintro e wf ⟨vb, is, rfl, hg, hbf⟩
          have hmemb := HP.out.mem_iff.1 (List.mem_of_getElem? HKb.out.2)
          obtain ⟨rfl, rfl⟩ := valOf_gets HSs.out.2.2.once hmemb hg
          have hvb9 : valOf s.prs kb < 18446744073709551616 := HSs.out.2.2.nums _ (valOf_mem hmemb)
          have HCf := Lib.hid (HCe.out.trans (Chg.of_below (M := fun _ => False) hbf) (fun _ e => e.elim))
          have HTf := Lib.hid (HTe.out.on hbf)
          have hs9f : w9.heap.size ≤ wf.heap.size := HCf.out.size
          have HBs5 := Lib.hid (HbV.out wf HCf.out).2
          obtain ⟨vb, hvb⟩ : ∃ vb, valOf s.prs kb = vb := ⟨_, rfl⟩
          have HVb := Lib.hid hvb
          rw [hvb] at hvb9
          simp only [hvb]
          clear hg hbf hvb c4'
          go_wp2_with fail
          refine (tabs_set (i := 2) HTf.out rfl _ kb (HBs5.out.mono hs9f) (by omega) vb hvb9 (by omega) (fun _ b hb => HBo.out b hb) (HNd.out wf hs9f)).mono ?_
          rintro e wg ⟨r, d2, rfl, hr, hse, ht, nb⟩
          have hpd : List.Perm d2.prs ((kb, vb) :: remA d.prs kb) := by
            rcases hr with ⟨_, _, h⟩ | ⟨h, _⟩
            · exact h
            · exact absurd ⟨hb1, hb2⟩ h
          have HPd := Lib.hid (take_step (P' := d2.prs) (((List.reverse_perm ks).nodup_iff).2 HKd.out) HKb.out.1 HU.out.down (by rw [HVb.out]; exact hpd))
          have HSd := Lib.hid (hse.trans HU.out.seed.2)
          have HTg : Hid (Tabs (fun z => (w.heap.size ≤ z ∧ z ≠ Hm) ∧ ¬ (w8.heap.size ≤ z ∧ z < w9.heap.size)) wg [(T, s), (U, u2), (D, d2)]) := Lib.hid ht
          have HCg := Lib.hid (HCf.out.trans nb (fun i e => .inl e))
          clear hr hse ht nb hpd
          go_wp2_with fail
          go_roundw
          case rel => exact ⟨i + 1, u2, d2, by go_num, by omega, Lib.hid ⟨HTg.out, ⟨HSu.out, HSd.out⟩, HPu.out, HPd.out, HCg.out⟩⟩
          case measure => simp [intOf]; omega
      · have j0 : ¬ (i : Int) < (n : Int) := by omega
        have hin : i = n := by omega
        have hup : List.Perm u.prs s.prs := by
          have := HU.out.up
          rw [hin, List.take_of_length_le (by omega)] at this
          exact this.trans (valOf_all HSs.out.2.2.once HP.out)
        have hdn : List.Perm d.prs s.prs := by
          have := HU.out.down
          rw [hin, List.take_of_length_le (by rw [List.length_reverse]; omega)] at this
          exact this.trans (valOf_all HSs.out.2.2.once ((List.reverse_perm ks).trans HP.out))
        have hok := HSs.out.2.2
        obtain rfl : s = u := hok.same (HU.out.tabs.ok (i := 1) rfl) (HSs.out.2.1.trans HU.out.seed.1.symm) hup.symm
        obtain rfl : s = d := hok.same (HU.out.tabs.ok (i := 2) rfl) (HSs.out.2.1.trans HU.out.seed.2.symm) hdn.symm
        have HL0 : Hid (PLive w.heap.size wr T s) := Lib.hid (HU.out.tabs.live (i := 0) rfl (fun x h => h.1.1))
        have HL1 : Hid (PLive w.heap.size wr U s) := Lib.hid (HU.out.tabs.live (i := 1) rfl (fun x h => h.1.1))
        have HL2 : Hid (PLive w.heap.size wr D s) := Lib.hid (HU.out.tabs.live (i := 2) rfl (fun x h => h.1.1))
        clear hin hup hdn hok
        go_wp2_with fail
        refine (alike_b HL0.out HL1.out).mono ?_
        rintro e wx ⟨rfl, hbx⟩
        have HBx := Lib.hid hbx
        clear hbx
        go_wp2_with fail
        refine (alike_b (HL0.out.on HBx.out) (HL2.out.on HBx.out)).mono ?_
        rintro e wy ⟨rfl, hby⟩
        have HBy := Lib.hid (HBx.out.trans (hby.mono HBx.out.size))
        clear hby
        go_wp2_with fail
        refine (knows14 _).mono ?_
        rintro e wz ⟨rfl, hbz⟩
        have HBz := Lib.hid (HBr.out.trans ((HBy.out.trans (hbz.mono HBy.out.size)).mono HBr.out.size))
        clear hbz
        go_wp2_with fail
        go_ret
        exact ⟨rfl, HBz.out⟩
end Go.Proofs.Ytffcbekogpgciaa.Pr
namespace Go.Proofs.Ytffcbekogpgciaa.probeAlone
open Go Go.RowKit Go.Joins
theorem walk (a0 : Int) (v1 : Value) (l1 : List Call14) (w : World) (w0 : (Lit.int .u64 a0).wf = true) (hl1 : Calls14 w w.heap.size v1 l1) :
    Calls Try.prog 4 #[.int .u64 a0, v1] w fun e w' => e = .returned (.bool true) ∧ Below w.heap.size w w' := by
  obtain ⟨b0, b1⟩ := bounds_u64 w0
  obtain ⟨s, rfl⟩ := Int.eq_ofNat_of_zero_le b0
  exact Pr.alone_walk s v1 l1 w (by omega) hl1
end Go.Proofs.Ytffcbekogpgciaa.probeAlone
