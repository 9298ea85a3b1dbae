
/-
  The walk of the law LocHas: it returns true, and writes nothing that was there.
-/
import Derived.Test.YtikdpldfklbdoaaLxHas
import Derived.Test.YtikdpldfklbdoaaHas2
import Derived.Test.YtikdpldfklbdoaaLxWakes
import Derived.Deep.LoopGhost
set_option linter.unusedVariables false
set_option linter.unusedSimpArgs false
namespace Go.Proofs.Ytikdpldfklbdoaa.locHas
open Go.RowKit Go.Maps

set_option maxRecDepth 1000000 in
theorem loop2c {c : Code} (hc : body2 = c) (w wr : World) (ba j : Nat) (D : DataW Unit) (Q0 : Exit → Act → World → Prop) (HH : Hid (HI w wr ba j D)) (hj100 : j ≤ 100)
    (hexit : ∀ (x0 x1 x2 x5 x6 x7 x8 x9 x10 x11 x12 x14 x15 x16 x17 x18 x19 x20 x21 x22 x23 x24 x25 x26 x27 x28 x29 x30 x31 x32 x33 x34 x35 x36 x37 x38 x39 x40 x41 x42 x43 x44 x45 x46 x47 x48 x49 x50 x51 x52 x53 x54 x55 x56 x57 x58 x59 x60 x61 x62 x63 x64 x65 x66 x67 x68 x69 x70 x71 x72 x73 x74 x75 x76 x77 x78 x79 x80 x81 x82 x83 x84 x85 x86 x87 x88 x89 x90 x91 x92 x93 x94 x95 x96 x97 x98 x99 x100 x101 x102 x103 x104 x105 x106 x107 x108 x109 x110 x111 x112 x113 x114 x115 x116 x117 x118 x119 x120 x121 x122 x123 x124 x125 x126 x127 x128 x129 x130 x131 x132 x133 x134 x135 x136 x137 x138 x139 x140 x141 x142 x143 x144 x145 x146 x147 x148 x149 x150 x151 x152 x153 x154 x155 x156 x157 x158 x159 x160 x161 x162 x163 x164 x165 x166 x167 x168 x169 x170 x171 x172 x173 x174 x175 x176 x177 x178 x179 x180 x181 x182 x183 x184 x185 x186 x187 x188 x189 x190 x191 x192 x193 x194 x195 x196 x197 x198 x199 x200 x201 x202 x203 x204 x205 x206 x207 x208 x209 x210 x211 x212 x213 x214 x215 x216 x217 x218 x219 x220 x221 x222 : Value) (wx : World), HI w wx ba j D → Q0 (.exit 3) ⟨List.toArray (x0 :: x1 :: x2 :: .pointer (some ⟨w.heap.size + 1, 0, none⟩) :: .map (some ba) :: x5 :: x6 :: x7 :: x8 :: x9 :: x10 :: x11 :: x12 :: .int .i64 (Maps.size D : Nat) :: x14 :: x15 :: x16 :: x17 :: x18 :: x19 :: x20 :: x21 :: x22 :: x23 :: x24 :: x25 :: x26 :: x27 :: x28 :: x29 :: x30 :: x31 :: x32 :: x33 :: x34 :: x35 :: x36 :: x37 :: x38 :: x39 :: x40 :: x41 :: x42 :: x43 :: x44 :: x45 :: x46 :: x47 :: x48 :: x49 :: x50 :: x51 :: x52 :: x53 :: x54 :: x55 :: x56 :: x57 :: x58 :: x59 :: x60 :: x61 :: x62 :: x63 :: x64 :: x65 :: x66 :: x67 :: x68 :: x69 :: x70 :: x71 :: x72 :: x73 :: x74 :: x75 :: x76 :: x77 :: x78 :: x79 :: x80 :: x81 :: x82 :: x83 :: x84 :: x85 :: x86 :: x87 :: x88 :: x89 :: x90 :: x91 :: x92 :: x93 :: x94 :: x95 :: x96 :: x97 :: x98 :: x99 :: x100 :: x101 :: x102 :: x103 :: x104 :: x105 :: x106 :: x107 :: x108 :: x109 :: x110 :: x111 :: x112 :: x113 :: x114 :: x115 :: x116 :: x117 :: x118 :: x119 :: x120 :: x121 :: x122 :: x123 :: x124 :: x125 :: x126 :: x127 :: x128 :: x129 :: x130 :: x131 :: x132 :: x133 :: x134 :: x135 :: x136 :: x137 :: x138 :: x139 :: x140 :: x141 :: x142 :: x143 :: x144 :: x145 :: x146 :: x147 :: x148 :: x149 :: x150 :: x151 :: x152 :: x153 :: x154 :: x155 :: x156 :: x157 :: x158 :: x159 :: x160 :: x161 :: x162 :: x163 :: x164 :: x165 :: x166 :: x167 :: x168 :: x169 :: x170 :: x171 :: x172 :: x173 :: x174 :: x175 :: x176 :: x177 :: x178 :: x179 :: x180 :: x181 :: x182 :: x183 :: x184 :: x185 :: x186 :: x187 :: x188 :: x189 :: x190 :: x191 :: x192 :: x193 :: x194 :: x195 :: x196 :: x197 :: x198 :: x199 :: x200 :: x201 :: x202 :: x203 :: x204 :: x205 :: x206 :: x207 :: x208 :: x209 :: x210 :: x211 :: x212 :: x213 :: x214 :: x215 :: x216 :: x217 :: x218 :: x219 :: x220 :: x221 :: x222 :: []), []⟩ wx)
    (u0 u1 u2 u5 u6 u7 u8 u9 u10 u11 u12 u15 u16 u17 u18 u19 u20 u21 u22 u23 u24 u25 u26 u27 u28 u29 u30 u31 u32 u33 u34 u35 u36 u37 u38 u39 u40 u41 u42 u43 u44 u45 u46 u47 u48 u49 u50 u51 u52 u53 u54 u55 u56 u57 u58 u59 u60 u61 u62 u63 u64 u65 u66 u67 u68 u69 u70 u71 u72 u73 u74 u75 u76 u77 u78 u79 u80 u81 u82 u83 u84 u85 u86 u87 u88 u89 u90 u91 u92 u93 u94 u95 u96 u97 u98 u99 u100 u101 u102 u103 u104 u105 u106 u107 u108 u109 u110 u111 u112 u113 u114 u115 u116 u117 u118 u119 u120 u121 u122 u123 u124 u125 u126 u127 u128 u129 u130 u131 u132 u133 u134 u135 u136 u137 u138 u139 u140 u141 u142 u143 u144 u145 u146 u147 u148 u149 u150 u151 u152 u153 u154 u155 u156 u157 u158 u159 u160 u161 u162 u163 u164 u165 u166 u167 u168 u169 u170 u171 u172 u173 u174 u175 u176 u177 u178 u179 u180 u181 u182 u183 u184 u185 u186 u187 u188 u189 u190 u191 u192 u193 u194 u195 u196 u197 u198 u199 u200 u201 u202 u203 u204 u205 u206 u207 u208 u209 u210 u211 u212 u213 u214 u215 u216 u217 u218 u219 u220 u221 u222 : Value) : Code.wp Try.prog (Code.loop c) Q0 ⟨List.toArray (u0 :: u1 :: u2 :: .pointer (some ⟨w.heap.size + 1, 0, none⟩) :: .map (some ba) :: u5 :: u6 :: u7 :: u8 :: u9 :: u10 :: u11 :: u12 :: .int .i64 0 :: .int .u32 1 :: u15 :: u16 :: u17 :: u18 :: u19 :: u20 :: u21 :: u22 :: u23 :: u24 :: u25 :: u26 :: u27 :: u28 :: u29 :: u30 :: u31 :: u32 :: u33 :: u34 :: u35 :: u36 :: u37 :: u38 :: u39 :: u40 :: u41 :: u42 :: u43 :: u44 :: u45 :: u46 :: u47 :: u48 :: u49 :: u50 :: u51 :: u52 :: u53 :: u54 :: u55 :: u56 :: u57 :: u58 :: u59 :: u60 :: u61 :: u62 :: u63 :: u64 :: u65 :: u66 :: u67 :: u68 :: u69 :: u70 :: u71 :: u72 :: u73 :: u74 :: u75 :: u76 :: u77 :: u78 :: u79 :: u80 :: u81 :: u82 :: u83 :: u84 :: u85 :: u86 :: u87 :: u88 :: u89 :: u90 :: u91 :: u92 :: u93 :: u94 :: u95 :: u96 :: u97 :: u98 :: u99 :: u100 :: u101 :: u102 :: u103 :: u104 :: u105 :: u106 :: u107 :: u108 :: u109 :: u110 :: u111 :: u112 :: u113 :: u114 :: u115 :: u116 :: u117 :: u118 :: u119 :: u120 :: u121 :: u122 :: u123 :: u124 :: u125 :: u126 :: u127 :: u128 :: u129 :: u130 :: u131 :: u132 :: u133 :: u134 :: u135 :: u136 :: u137 :: u138 :: u139 :: u140 :: u141 :: u142 :: u143 :: u144 :: u145 :: u146 :: u147 :: u148 :: u149 :: u150 :: u151 :: u152 :: u153 :: u154 :: u155 :: u156 :: u157 :: u158 :: u159 :: u160 :: u161 :: u162 :: u163 :: u164 :: u165 :: u166 :: u167 :: u168 :: u169 :: u170 :: u171 :: u172 :: u173 :: u174 :: u175 :: u176 :: u177 :: u178 :: u179 :: u180 :: u181 :: u182 :: u183 :: u184 :: u185 :: u186 :: u187 :: u188 :: u189 :: u190 :: u191 :: u192 :: u193 :: u194 :: u195 :: u196 :: u197 :: u198 :: u199 :: u200 :: u201 :: u202 :: u203 :: u204 :: u205 :: u206 :: u207 :: u208 :: u209 :: u210 :: u211 :: u212 :: u213 :: u214 :: u215 :: u216 :: u217 :: u218 :: u219 :: u220 :: u221 :: u222 :: []), []⟩ wr := by
  subst hc
  exact loop2 w wr ba j D Q0 HH hj100 hexit u0 u1 u2 u5 u6 u7 u8 u9 u10 u11 u12 u15 u16 u17 u18 u19 u20 u21 u22 u23 u24 u25 u26 u27 u28 u29 u30 u31 u32 u33 u34 u35 u36 u37 u38 u39 u40 u41 u42 u43 u44 u45 u46 u47 u48 u49 u50 u51 u52 u53 u54 u55 u56 u57 u58 u59 u60 u61 u62 u63 u64 u65 u66 u67 u68 u69 u70 u71 u72 u73 u74 u75 u76 u77 u78 u79 u80 u81 u82 u83 u84 u85 u86 u87 u88 u89 u90 u91 u92 u93 u94 u95 u96 u97 u98 u99 u100 u101 u102 u103 u104 u105 u106 u107 u108 u109 u110 u111 u112 u113 u114 u115 u116 u117 u118 u119 u120 u121 u122 u123 u124 u125 u126 u127 u128 u129 u130 u131 u132 u133 u134 u135 u136 u137 u138 u139 u140 u141 u142 u143 u144 u145 u146 u147 u148 u149 u150 u151 u152 u153 u154 u155 u156 u157 u158 u159 u160 u161 u162 u163 u164 u165 u166 u167 u168 u169 u170 u171 u172 u173 u174 u175 u176 u177 u178 u179 u180 u181 u182 u183 u184 u185 u186 u187 u188 u189 u190 u191 u192 u193 u194 u195 u196 u197 u198 u199 u200 u201 u202 u203 u204 u205 u206 u207 u208 u209 u210 u211 u212 u213 u214 u215 u216 u217 u218 u219 u220 u221 u222

set_option maxRecDepth 100000 in
set_option maxHeartbeats 16000000 in
theorem walk (v0 : Value) (l0 : List Act3) (w : World) (hl0 : Acts3 w w.heap.size v0 l0) :
    Calls Try.prog 7 #[v0] w fun e w' => e = .returned (.bool true) ∧ Below w.heap.size w w' := by
  obtain ⟨A0, cap0, rfl, hcap, hmx, hok, hel⟩ := hl0
  unfold maxLen at hmx
  have Hok := Lib.hid hok
  have Hel := Lib.hid hel
  clear hok hel
  have hmm := @run_makeMap Try.prog
  go_enter Try.func7, Try.ntmps7
  go_wp2_with fail
  refine (new_any _).mono ?_
  rintro e w1 ⟨rfl, hs, hb⟩
  have H1 : Hid (HI w (w1.alloc (.map #[] 0)) w1.heap.size 0 (.map [])) := ⟨balloc hb _, hs.on (bnew _ _), World.ownsMap_made w1 _ _ _, inr_nil, hs.lt⟩
  clear hs hb
  go_wp2_with fail
  generalize w1.heap.size = ba at *
  generalize w1.alloc (.map #[] 0) = w2 at *
  go_loopw [26] (fun i wr => ∃ (j : Nat) (D : DataW Unit), j ≤ l0.length ∧ j ≤ 100 ∧ i = .int .i64 j ∧ HI w wr ba j D) (fun i _ => 101 - (intOf i).toNat)
  case atStart => exact ⟨0, _, by omega, by omega, rfl, H1.out⟩
  case round =>
    clear H1
    obtain ⟨j, D, hj, hj100, rfl, hI⟩ := hrel
    have HH := Lib.hid hI
    clear hI
    by_cases hlt : j < l0.length
    · obtain ⟨a, ha⟩ : ∃ a, l0[j]? = some a := ⟨l0[j], List.getElem?_eq_getElem hlt⟩
      have hok := Hok.out a (List.mem_of_getElem? ha)
      obtain ⟨b, o, rfl, hbb, hcc⟩ := Hel.out j a ha
      have hcb : ∀ k u, a.cells[k]? = some u → wr.cell? ⟨b, o + j * 6 + k, none⟩ = some u := fun k u hu => (HH.out.bel.cell (p := ⟨b, o + j * 6 + k, none⟩) hbb).trans (hcc k u hu)
      have c0 : wr.cell? ⟨b, o + j * 6, none⟩ = some (.int .i64 a.what) := hcb 0 _ rfl
      have c1 : wr.cell? ⟨b, o + j * 6 + 1, none⟩ = some (.int .u32 a.s) := hcb 1 _ rfl
      have c2 : wr.cell? ⟨b, o + j * 6 + 2, none⟩ = some (.int .u32 a.o) := hcb 2 _ rfl
      have c3 : wr.cell? ⟨b, o + j * 6 + 3, none⟩ = some (.int .u32 a.t) := hcb 3 _ rfl
      have c4 : wr.cell? ⟨b, o + j * 6 + 4, none⟩ = some (.int .u32 a.p) := hcb 4 _ rfl
      have c5 : wr.cell? ⟨b, o + j * 6 + 5, none⟩ = some (.int .u64 a.n) := hcb 5 _ rfl
      have HO := Lib.hid hok
      clear hcb hcc ha hok
      by_cases h100 : j < 100
      · have hne : ((j : Int) == 100) = false := by simp; omega
        obtain ⟨s0, s1, o0, o1, t0, t1, p0, p1, n0, n1⟩ := HO.out
        have HX := Lib.hid HH.out.lt
        have M1 : Hid (a.s.tmod 3 = a.s % 3) := Int.tmod_eq_emod_of_nonneg s0
        have M2 : Hid (a.o.tmod 4 = a.o % 4) := Int.tmod_eq_emod_of_nonneg o0
        have M3 : Hid (a.t.tmod 3 = a.t % 3) := Int.tmod_eq_emod_of_nonneg t0
        have M4 : Hid (a.p.tmod 4 = a.p % 4) := Int.tmod_eq_emod_of_nonneg p0
        go_upto_region 7 with fail
        clear c0 c1 c2 c3 c4 c5
        go_cut [42] (fun _ wx => ABx wx wr.heap.size { a with s := 1 + a.s % 3 % 16777215, o := 16 + a.o % 4 % 16777201, t := 1 + a.t % 3 % 16777215, p := 16 + a.p % 4 % 16777201 } ∧ HI w wx ba j D)
        case first =>
          have HA : Hid (ABx _ wr.heap.size a) := (ABx.new wr a 60).on (Below.refl _ _).drew
          replace HH : Hid (HI w _ ba j D) := (HH.out.on (bnew _ (.cells #[.int .i64 a.what, .int .u32 a.s, .int .u32 a.o, .int .u32 a.t, .int .u32 a.p, .int .u64 a.n] 60))).drew
          have hX : Hid (ba < wr.heap.size) := HX.out
          refine wp_region_noPanic ?_
          refine OrdL.wpL_region (fun w' => ABx w' wr.heap.size a) 21 (by kernel_rfl) ?_
          generalize World.drew _ = W at *
          have hHeld := HA.out
          refine OrdL.wpL_take (i := 0) (v := ?_) opAt_0 [] (by kernel_rfl) (by kernel_rfl) (by kernel_rfl) (by kernel_rfl) (by kernel_rfl) (by kernel_rfl) (fun _ _ _ h => h) (Or.inl ⟨by rfl, ?_⟩) hHeld ?_
          rotate_left
          · (intro w' hSw; obtain ⟨k0, k1, k2, k3, k4, k5, kf, kz⟩ := hSw; go_simp; try with_reducible rfl)
          try simp only [Act.put, List.setIfInBounds_toArray, List.set_cons_zero, List.set_cons_succ]
          refine OrdL.wpL_take (i := 1) (v := ?_) opAt_1 [] (by kernel_rfl) (by kernel_rfl) (by kernel_rfl) (by kernel_rfl) (by kernel_rfl) (by kernel_rfl) (fun _ _ _ h => h) (Or.inl ⟨by rfl, ?_⟩) hHeld ?_
          rotate_left
          · (intro w' hSw; obtain ⟨k0, k1, k2, k3, k4, k5, kf, kz⟩ := hSw; go_simp; try with_reducible rfl)
          try simp only [Act.put, List.setIfInBounds_toArray, List.set_cons_zero, List.set_cons_succ]
          refine OrdL.wpL_take (i := 2) (v := ?_) opAt_2 [] (by kernel_rfl) (by kernel_rfl) (by kernel_rfl) (by kernel_rfl) (by kernel_rfl) (by kernel_rfl) (fun _ _ _ h => h) (Or.inl ⟨by rfl, ?_⟩) hHeld ?_
          rotate_left
          · (intro w' hSw; obtain ⟨k0, k1, k2, k3, k4, k5, kf, kz⟩ := hSw; go_simp; try with_reducible rfl)
          try simp only [Act.put, List.setIfInBounds_toArray, List.set_cons_zero, List.set_cons_succ]
          refine OrdL.wpL_take (i := 3) (v := ?_) opAt_3 [] (by kernel_rfl) (by kernel_rfl) (by kernel_rfl) (by kernel_rfl) (by kernel_rfl) (by kernel_rfl) (fun _ _ _ h => h) (Or.inl ⟨by rfl, ?_⟩) hHeld ?_
          rotate_left
          · (intro w' hSw; obtain ⟨k0, k1, k2, k3, k4, k5, kf, kz⟩ := hSw; go_simp; try with_reducible rfl)
          try simp only [Act.put, List.setIfInBounds_toArray, List.set_cons_zero, List.set_cons_succ]
          refine OrdL.wpL_take (i := 4) (v := ?_) opAt_4 [] (by kernel_rfl) (by kernel_rfl) (by kernel_rfl) (by kernel_rfl) (by kernel_rfl) (by kernel_rfl) (fun _ _ _ h => h) (Or.inl ⟨by rfl, ?_⟩) hHeld ?_
          rotate_left
          · (intro w' hSw; obtain ⟨k0, k1, k2, k3, k4, k5, kf, kz⟩ := hSw; go_simp; try with_reducible rfl)
          try simp only [Act.put, List.setIfInBounds_toArray, List.set_cons_zero, List.set_cons_succ]
          refine OrdL.wpL_take (i := 5) (v := ?_) opAt_5 [] (by kernel_rfl) (by kernel_rfl) (by kernel_rfl) (by kernel_rfl) (by kernel_rfl) (by kernel_rfl) (fun _ _ _ h => h) (Or.inl ⟨by rfl, ?_⟩) hHeld ?_
          rotate_left
          · (intro w' hSw; obtain ⟨k0, k1, k2, k3, k4, k5, kf, kz⟩ := hSw; go_simp; try with_reducible rfl)
          try simp only [Act.put, List.setIfInBounds_toArray, List.set_cons_zero, List.set_cons_succ]
          refine OrdL.wpL_take (i := 6) (v := ?_) opAt_6 [] (by kernel_rfl) (by kernel_rfl) (by kernel_rfl) (by kernel_rfl) (by kernel_rfl) (by kernel_rfl) (fun _ _ _ h => h) (Or.inl ⟨by rfl, ?_⟩) hHeld ?_
          rotate_left
          · (intro w' hSw; obtain ⟨k0, k1, k2, k3, k4, k5, kf, kz⟩ := hSw; go_simp; try with_reducible rfl)
          try simp only [Act.put, List.setIfInBounds_toArray, List.set_cons_zero, List.set_cons_succ]
          refine OrdL.wpL_take (i := 7) (v := ?_) opAt_7 [] (by kernel_rfl) (by kernel_rfl) (by kernel_rfl) (by kernel_rfl) (by kernel_rfl) (by kernel_rfl) (fun _ _ _ h => h) (Or.inl ⟨by rfl, ?_⟩) hHeld ?_
          rotate_left
          · (intro w' hSw; obtain ⟨k0, k1, k2, k3, k4, k5, kf, kz⟩ := hSw; go_simp; try with_reducible rfl)
          try simp only [Act.put, List.setIfInBounds_toArray, List.set_cons_zero, List.set_cons_succ]
          refine OrdL.wpL_take (i := 8) (v := ?_) opAt_8 [] (by kernel_rfl) (by kernel_rfl) (by kernel_rfl) (by kernel_rfl) (by kernel_rfl) (by kernel_rfl) (fun _ _ _ h => h) (Or.inl ⟨by rfl, ?_⟩) hHeld ?_
          rotate_left
          · (intro w' hSw; obtain ⟨k0, k1, k2, k3, k4, k5, kf, kz⟩ := hSw; go_simp; try with_reducible rfl)
          try simp only [Act.put, List.setIfInBounds_toArray, List.set_cons_zero, List.set_cons_succ]
          refine OrdL.wpL_take (i := 10) (v := ?_) opAt_10 [] (by kernel_rfl) (by kernel_rfl) (by kernel_rfl) (by kernel_rfl) (by kernel_rfl) (by kernel_rfl) (fun _ _ _ h => h) (Or.inl ⟨by rfl, ?_⟩) hHeld ?_
          rotate_left
          · (intro w' hSw; obtain ⟨k0, k1, k2, k3, k4, k5, kf, kz⟩ := hSw; go_simp; try with_reducible rfl)
          try simp only [Act.put, List.setIfInBounds_toArray, List.set_cons_zero, List.set_cons_succ]
          refine OrdL.wpL_take (i := 11) (v := ?_) opAt_11 [] (by kernel_rfl) (by kernel_rfl) (by kernel_rfl) (by kernel_rfl) (by kernel_rfl) (by kernel_rfl) (fun _ _ _ h => h) (Or.inl ⟨by rfl, ?_⟩) hHeld ?_
          rotate_left
          · (intro w' hSw; obtain ⟨k0, k1, k2, k3, k4, k5, kf, kz⟩ := hSw; go_simp; try with_reducible rfl)
          try simp only [Act.put, List.setIfInBounds_toArray, List.set_cons_zero, List.set_cons_succ]
          refine OrdL.wpL_take (i := 12) (v := ?_) opAt_12 [] (by kernel_rfl) (by kernel_rfl) (by kernel_rfl) (by kernel_rfl) (by kernel_rfl) (by kernel_rfl) (fun _ _ _ h => h) (Or.inl ⟨by rfl, ?_⟩) hHeld ?_
          rotate_left
          · (intro w' hSw; obtain ⟨k0, k1, k2, k3, k4, k5, kf, kz⟩ := hSw; go_simp; try with_reducible rfl)
          try simp only [Act.put, List.setIfInBounds_toArray, List.set_cons_zero, List.set_cons_succ]
          refine OrdL.wpL_take (i := 13) (v := ?_) opAt_13 [19, 18] (by kernel_rfl) (by kernel_rfl) (by kernel_rfl) (by kernel_rfl) (by kernel_rfl) (by kernel_rfl) (fun _ _ _ h => h) (Or.inl ⟨by rfl, ?_⟩) hHeld ?_
          rotate_left
          · (intro w' hSw; obtain ⟨k0, k1, k2, k3, k4, k5, kf, kz⟩ := hSw; go_simp; try with_reducible rfl)
          try simp only [Act.put, List.setIfInBounds_toArray, List.set_cons_zero, List.set_cons_succ]
          refine OrdL.wpL_take (i := 14) (v := ?_) opAt_14 [] (by kernel_rfl) (by kernel_rfl) (by kernel_rfl) (by kernel_rfl) (by kernel_rfl) (by kernel_rfl) (fun _ _ _ h => h) (Or.inl ⟨by rfl, ?_⟩) hHeld ?_
          rotate_left
          · (intro w' hSw; obtain ⟨k0, k1, k2, k3, k4, k5, kf, kz⟩ := hSw; go_simp; try with_reducible rfl)
          try simp only [Act.put, List.setIfInBounds_toArray, List.set_cons_zero, List.set_cons_succ]
          refine OrdL.wpL_take (i := 15) (v := ?_) opAt_15 [] (by kernel_rfl) (by kernel_rfl) (by kernel_rfl) (by kernel_rfl) (by kernel_rfl) (by kernel_rfl) (fun _ _ _ h => h) (Or.inl ⟨by rfl, ?_⟩) hHeld ?_
          rotate_left
          · (intro w' hSw; obtain ⟨k0, k1, k2, k3, k4, k5, kf, kz⟩ := hSw; go_simp; try with_reducible rfl)
          try simp only [Act.put, List.setIfInBounds_toArray, List.set_cons_zero, List.set_cons_succ]
          refine OrdL.wpL_take (i := 16) (v := ?_) opAt_16 [] (by kernel_rfl) (by kernel_rfl) (by kernel_rfl) (by kernel_rfl) (by kernel_rfl) (by kernel_rfl) (fun _ _ _ h => h) (Or.inl ⟨by rfl, ?_⟩) hHeld ?_
          rotate_left
          · (intro w' hSw; obtain ⟨k0, k1, k2, k3, k4, k5, kf, kz⟩ := hSw; go_simp; try with_reducible rfl)
          try simp only [Act.put, List.setIfInBounds_toArray, List.set_cons_zero, List.set_cons_succ]
          refine OrdL.wpL_take (i := 17) (v := ?_) opAt_17 [19, 18] (by kernel_rfl) (by kernel_rfl) (by kernel_rfl) (by kernel_rfl) (by kernel_rfl) (by kernel_rfl) (fun _ _ _ h => h) (Or.inl ⟨by rfl, ?_⟩) hHeld ?_
          rotate_left
          · (intro w' hSw; obtain ⟨k0, k1, k2, k3, k4, k5, kf, kz⟩ := hSw; go_simp; try with_reducible rfl)
          try simp only [Act.put, List.setIfInBounds_toArray, List.set_cons_zero, List.set_cons_succ]
          refine OrdL.wpL_take (i := 18) (v := ?_) opAt_18 [19] (by kernel_rfl) (by kernel_rfl) (by kernel_rfl) (by kernel_rfl) (by kernel_rfl) (by kernel_rfl) (fun _ _ _ h => h) (Or.inl ⟨by rfl, ?_⟩) hHeld ?_
          rotate_left
          · (intro w' hSw; obtain ⟨k0, k1, k2, k3, k4, k5, kf, kz⟩ := hSw; go_simp; try with_reducible rfl)
          try simp only [Act.put, List.setIfInBounds_toArray, List.set_cons_zero, List.set_cons_succ]
          refine OrdL.wpL_ready (rs := [9]) (by kernel_rfl) (by simp) ?_
          refine OrdL.AllL.cons rfl (fun K hK => ?_) OrdL.AllL.nil
          go_simp
          rw [M1.out, M2.out]
          refine (brought_any (a.s % 3) (a.o % 4) _ (by omega) (by omega) (by omega) (by omega)).mono ?_
          rintro e wn ⟨rfl, hb⟩
          replace HH := Lib.hid (HH.out.on hb)
          replace HA := Lib.hid (HA.out.on hb)
          clear hb hHeld
          unfold lv
          go_wp2_with fail
          have hHeld := HA.out
          refine hK.out _ _ (fun _ => HA.out) ?_
          clear hK K
          try simp only [Act.put, List.setIfInBounds_toArray, List.set_cons_zero, List.set_cons_succ]
          refine OrdL.wpL_take (i := 20) (v := ?_) opAt_20 [] (by kernel_rfl) (by kernel_rfl) (by kernel_rfl) (by kernel_rfl) (by kernel_rfl) (by kernel_rfl) (fun _ _ _ h => h) (Or.inl ⟨by rfl, ?_⟩) hHeld ?_
          rotate_left
          · (intro w' hSw; obtain ⟨k0, k1, k2, k3, k4, k5, kf, kz⟩ := hSw; go_simp; try with_reducible rfl)
          try simp only [Act.put, List.setIfInBounds_toArray, List.set_cons_zero, List.set_cons_succ]
          refine OrdL.wpL_ready (rs := [19]) (by kernel_rfl) (by simp) ?_
          refine OrdL.AllL.cons rfl (fun K hK => ?_) OrdL.AllL.nil
          go_simp
          rw [M3.out, M4.out]
          refine (brought_any (a.t % 3) (a.p % 4) _ (by omega) (by omega) (by omega) (by omega)).mono ?_
          rintro e wn ⟨rfl, hb⟩
          replace HH := Lib.hid (HH.out.on hb)
          replace HA := Lib.hid (HA.out.on hb)
          clear hb hHeld
          unfold lv
          go_wp2_with fail
          have hHeld := HA.out
          refine hK.out _ _ (fun _ => HA.out) ?_
          clear hK K
          try simp only [Act.put, List.setIfInBounds_toArray, List.set_cons_zero, List.set_cons_succ]
          clear hHeld
          refine OrdL.wpL_ready (rs := [21]) (by kernel_rfl) (by simp) ?_
          refine OrdL.AllL.cons rfl (fun K hK => ?_) OrdL.AllL.nil
          obtain ⟨k0, k1, k2, k3, k4, k5, kf, kz⟩ := HA.out
          have kf1 := kf 1
          have kf2 := kf 2
          clear kf
          go_simp
          refine hK.out _ _ (fun h => absurd h (by decide)) ?_
          clear hK K k0 k1 k2 k3 k4 k5 kz kf1 kf2
          try simp only [Act.put, List.setIfInBounds_toArray, List.set_cons_zero, List.set_cons_succ]
          replace HH := Lib.hid (HH.out.setL HX.out (1 + a.s % 3 % 16777215) (16 + a.o % 4 % 16777201))
          replace HA := Lib.hid (HA.out.setL (1 + a.s % 3 % 16777215) (16 + a.o % 4 % 16777201))
          generalize World.setCell (World.setCell _ _ _) _ _ = W4 at *
          refine OrdL.wpL_ready (rs := [22]) (by kernel_rfl) (by simp) ?_
          refine OrdL.AllL.cons rfl (fun K hK => ?_) OrdL.AllL.nil
          go_simp
          refine hK.out _ _ (fun h => absurd h (by decide)) ?_
          clear hK K
          try simp only [Act.put, List.setIfInBounds_toArray, List.set_cons_zero, List.set_cons_succ]
          refine OrdL.wpL_ready (rs := [23]) (by kernel_rfl) (by simp) ?_
          refine OrdL.AllL.cons rfl (fun K hK => ?_) OrdL.AllL.nil
          obtain ⟨k0, k1, k2, k3, k4, k5, kf, kz⟩ := HA.out
          have kf3 := kf 3
          have kf4 := kf 4
          clear kf
          simp only at k3 k4
          go_simp
          refine hK.out _ _ (fun h => absurd h (by decide)) ?_
          clear hK K k0 k1 k2 k3 k4 k5 kz kf3 kf4
          try simp only [Act.put, List.setIfInBounds_toArray, List.set_cons_zero, List.set_cons_succ]
          replace HH := Lib.hid (HH.out.setT HX.out (1 + a.t % 3 % 16777215) (16 + a.p % 4 % 16777201))
          replace HA := Lib.hid (HA.out.setT (1 + a.t % 3 % 16777215) (16 + a.p % 4 % 16777201))
          generalize World.setCell (World.setCell _ _ _) _ _ = W5 at *
          refine OrdL.wpL_done (by kernel_rfl) ?_ _
          refine NoPanic.normal ?_
          go_wp2_with fail
          go_meet
          exact ⟨HA.out, HH.out⟩
        case rest =>
          obtain ⟨hA, hH⟩ := hcut
          have bs : 1 ≤ 1 + a.s % 3 % 16777215 ∧ 1 + a.s % 3 % 16777215 ≤ 3 := by omega
          have bo : 16 ≤ 16 + a.o % 4 % 16777201 ∧ 16 + a.o % 4 % 16777201 ≤ 19 := by omega
          have bt : 1 ≤ 1 + a.t % 3 % 16777215 ∧ 1 + a.t % 3 % 16777215 ≤ 3 := by omega
          have bp : 16 ≤ 16 + a.p % 4 % 16777201 ∧ 16 + a.p % 4 % 16777201 ≤ 19 := by omega
          have hA' : ABx wc wr.heap.size ⟨a.what, 1 + a.s % 3 % 16777215, 16 + a.o % 4 % 16777201, 1 + a.t % 3 % 16777215, 16 + a.p % 4 % 16777201, a.n⟩ := hA
          replace HH := Lib.hid hH
          clear hA hH HO M1 M2 M3 M4 s0 s1 o0 o1 t0 t1 p0 p1
          generalize 1 + a.s % 3 % 16777215 = s at *
          generalize 16 + a.o % 4 % 16777201 = o' at *
          generalize 1 + a.t % 3 % 16777215 = t at *
          generalize 16 + a.p % 4 % 16777201 = p at *
          have HA := Lib.hid hA'
          have hXX := HX.out
          clear hA'
          obtain ⟨q1, q2⟩ := bs
          obtain ⟨q3, q4⟩ := bo
          obtain ⟨q5, q6⟩ := bt
          obtain ⟨q7, q8⟩ := bp
          generalize wr.heap.size = X at *
          go_upto_region 8 with fail
          go_cut [7, 8] (fun s7 s8 wx => ∃ g7 g8 : Nat, s7 = .pointer (some ⟨g7, 0, none⟩) ∧ s8 = .pointer (some ⟨g8, 0, none⟩) ∧ LBox wx g7 s o' ∧ LBox wx g8 t p ∧ ABx wx X ⟨a.what, s, o', t, p, a.n⟩ ∧ HI w wx ba j D)
          case first =>
            replace HA := Lib.hid (HA.out.on (Below.refl _ _).drew)
            replace HH := Lib.hid HH.out.drew
            refine wp_region_noPanic ?_
            refine wp_region_held_drew (S := fun w' => ABx w' X ⟨a.what, s, o', t, p, a.n⟩) (by kernel_rfl) HA.out (fun hHeld => ?_)
            generalize World.drew _ = W at *
            refine wpAnyH_take (i := 0) (v := ?_) opAt_0 (by kernel_rfl) (by kernel_rfl) (by kernel_rfl) (fun _ _ _ h => h) (Or.inl ⟨by rfl, ?_⟩) hHeld ?_
            rotate_left
            · (intro w' hSw; obtain ⟨k0, k1, k2, k3, k4, k5, kf, kz⟩ := hSw; clear kf; simp only at k0 k1 k2 k3 k4 k5; go_simp; try with_reducible rfl)
            try simp only [Act.put, List.setIfInBounds_toArray, List.set_cons_zero, List.set_cons_succ]
            refine wpAnyH_take (i := 1) (v := ?_) opAt_1 (by kernel_rfl) (by kernel_rfl) (by kernel_rfl) (fun _ _ _ h => h) (Or.inl ⟨by rfl, ?_⟩) hHeld ?_
            rotate_left
            · (intro w' hSw; obtain ⟨k0, k1, k2, k3, k4, k5, kf, kz⟩ := hSw; clear kf; simp only at k0 k1 k2 k3 k4 k5; go_simp; try with_reducible rfl)
            try simp only [Act.put, List.setIfInBounds_toArray, List.set_cons_zero, List.set_cons_succ]
            refine wpAnyH_take (i := 2) (v := ?_) opAt_2 (by kernel_rfl) (by kernel_rfl) (by kernel_rfl) (fun _ _ _ h => h) (Or.inl ⟨by rfl, ?_⟩) hHeld ?_
            rotate_left
            · (intro w' hSw; obtain ⟨k0, k1, k2, k3, k4, k5, kf, kz⟩ := hSw; clear kf; simp only at k0 k1 k2 k3 k4 k5; go_simp; try with_reducible rfl)
            try simp only [Act.put, List.setIfInBounds_toArray, List.set_cons_zero, List.set_cons_succ]
            refine wpAnyH_take (i := 3) (v := ?_) opAt_3 (by kernel_rfl) (by kernel_rfl) (by kernel_rfl) (fun _ _ _ h => h) (Or.inl ⟨by rfl, ?_⟩) hHeld ?_
            rotate_left
            · (intro w' hSw; obtain ⟨k0, k1, k2, k3, k4, k5, kf, kz⟩ := hSw; clear kf; simp only at k0 k1 k2 k3 k4 k5; go_simp; try with_reducible rfl)
            try simp only [Act.put, List.setIfInBounds_toArray, List.set_cons_zero, List.set_cons_succ]
            refine wpAnyH_take (i := 4) (v := ?_) opAt_4 (by kernel_rfl) (by kernel_rfl) (by kernel_rfl) (fun _ _ _ h => h) (Or.inl ⟨by rfl, ?_⟩) hHeld ?_
            rotate_left
            · (intro w' hSw; obtain ⟨k0, k1, k2, k3, k4, k5, kf, kz⟩ := hSw; clear kf; simp only at k0 k1 k2 k3 k4 k5; go_simp; try with_reducible rfl)
            try simp only [Act.put, List.setIfInBounds_toArray, List.set_cons_zero, List.set_cons_succ]
            refine wpAnyH_take (i := 5) (v := ?_) opAt_5 (by kernel_rfl) (by kernel_rfl) (by kernel_rfl) (fun _ _ _ h => h) (Or.inl ⟨by rfl, ?_⟩) hHeld ?_
            rotate_left
            · (intro w' hSw; obtain ⟨k0, k1, k2, k3, k4, k5, kf, kz⟩ := hSw; clear kf; simp only at k0 k1 k2 k3 k4 k5; go_simp; try with_reducible rfl)
            try simp only [Act.put, List.setIfInBounds_toArray, List.set_cons_zero, List.set_cons_succ]
            refine wpAnyH_take (i := 6) (v := ?_) opAt_6 (by kernel_rfl) (by kernel_rfl) (by kernel_rfl) (fun _ _ _ h => h) (Or.inl ⟨by rfl, ?_⟩) hHeld ?_
            rotate_left
            · (intro w' hSw; obtain ⟨k0, k1, k2, k3, k4, k5, kf, kz⟩ := hSw; clear kf; simp only at k0 k1 k2 k3 k4 k5; go_simp; try with_reducible rfl)
            try simp only [Act.put, List.setIfInBounds_toArray, List.set_cons_zero, List.set_cons_succ]
            refine wpAnyH_take (i := 7) (v := ?_) opAt_7 (by kernel_rfl) (by kernel_rfl) (by kernel_rfl) (fun _ _ _ h => h) (Or.inl ⟨by rfl, ?_⟩) hHeld ?_
            rotate_left
            · (intro w' hSw; obtain ⟨k0, k1, k2, k3, k4, k5, kf, kz⟩ := hSw; clear kf; simp only at k0 k1 k2 k3 k4 k5; go_simp; try with_reducible rfl)
            try simp only [Act.put, List.setIfInBounds_toArray, List.set_cons_zero, List.set_cons_succ]
            refine wpAnyH_take (i := 8) (v := ?_) opAt_8 (by kernel_rfl) (by kernel_rfl) (by kernel_rfl) (fun _ _ _ h => h) (Or.inl ⟨by rfl, ?_⟩) hHeld ?_
            rotate_left
            · (intro w' hSw; obtain ⟨k0, k1, k2, k3, k4, k5, kf, kz⟩ := hSw; clear kf; simp only at k0 k1 k2 k3 k4 k5; go_simp; try with_reducible rfl)
            try simp only [Act.put, List.setIfInBounds_toArray, List.set_cons_zero, List.set_cons_succ]
            refine wpAnyH_take (i := 9) (v := ?_) opAt_9 (by kernel_rfl) (by kernel_rfl) (by kernel_rfl) (fun _ _ _ h => h) (Or.inl ⟨by rfl, ?_⟩) hHeld ?_
            rotate_left
            · (intro w' hSw; obtain ⟨k0, k1, k2, k3, k4, k5, kf, kz⟩ := hSw; clear kf; simp only at k0 k1 k2 k3 k4 k5; go_simp; try with_reducible rfl)
            try simp only [Act.put, List.setIfInBounds_toArray, List.set_cons_zero, List.set_cons_succ]
            refine wpAnyH_take (i := 10) (v := ?_) opAt_10 (by kernel_rfl) (by kernel_rfl) (by kernel_rfl) (fun _ _ _ h => h) (Or.inl ⟨by rfl, ?_⟩) hHeld ?_
            rotate_left
            · (intro w' hSw; obtain ⟨k0, k1, k2, k3, k4, k5, kf, kz⟩ := hSw; clear kf; simp only at k0 k1 k2 k3 k4 k5; go_simp; try with_reducible rfl)
            try simp only [Act.put, List.setIfInBounds_toArray, List.set_cons_zero, List.set_cons_succ]
            refine wpAnyH_take (i := 11) (v := ?_) opAt_11 (by kernel_rfl) (by kernel_rfl) (by kernel_rfl) (fun _ _ _ h => h) (Or.inl ⟨by rfl, ?_⟩) hHeld ?_
            rotate_left
            · (intro w' hSw; obtain ⟨k0, k1, k2, k3, k4, k5, kf, kz⟩ := hSw; clear kf; simp only at k0 k1 k2 k3 k4 k5; go_simp; try with_reducible rfl)
            try simp only [Act.put, List.setIfInBounds_toArray, List.set_cons_zero, List.set_cons_succ]
            refine wpAnyH_take (i := 12) (v := ?_) opAt_12 (by kernel_rfl) (by kernel_rfl) (by kernel_rfl) (fun _ _ _ h => h) (Or.inl ⟨by rfl, ?_⟩) hHeld ?_
            rotate_left
            · (intro w' hSw; obtain ⟨k0, k1, k2, k3, k4, k5, kf, kz⟩ := hSw; clear kf; simp only at k0 k1 k2 k3 k4 k5; go_simp; try with_reducible rfl)
            try simp only [Act.put, List.setIfInBounds_toArray, List.set_cons_zero, List.set_cons_succ]
            refine wpAnyH_take (i := 13) (v := ?_) opAt_13 (by kernel_rfl) (by kernel_rfl) (by kernel_rfl) (fun _ _ _ h => h) (Or.inl ⟨by rfl, ?_⟩) hHeld ?_
            rotate_left
            · (intro w' hSw; obtain ⟨k0, k1, k2, k3, k4, k5, kf, kz⟩ := hSw; clear kf; simp only at k0 k1 k2 k3 k4 k5; go_simp; try with_reducible rfl)
            try simp only [Act.put, List.setIfInBounds_toArray, List.set_cons_zero, List.set_cons_succ]
            have hW := Lib.hid HH.out.lt
            have hXW := Lib.hid HA.out.lt
            refine wpAnyH_ready (rs := [14, 15]) (by kernel_rfl) (by simp) ?_
            refine AllReadyH.cons rfl (fun K hK => ?_) (AllReadyH.cons rfl (fun K hK => ?_) AllReadyH.nil)
            · go_simp
              have HA7 := Lib.hid (LBox.new W 0 0 80)
              replace HH := Lib.hid (HH.out.on (bnew _ (.cells #[.int .u32 0, .int .u32 0] 80)))
              replace HA := Lib.hid (HA.out.on (bnew _ (.cells #[.int .u32 0, .int .u32 0] 80)))
              have hgX := Lib.hid HA.out.lt
              refine hK.out _ _ HA.out (fun hHeld => ?_)
              clear hK K
              try simp only [Act.put, List.setIfInBounds_toArray, List.set_cons_zero, List.set_cons_succ]
              refine wpAnyH_ready (rs := [15]) (by kernel_rfl) (by simp) ?_
              refine AllReadyH.cons rfl (fun K hK => ?_) AllReadyH.nil
              go_simp
              have HA8 := Lib.hid (LBox.new2 W (.cells #[.int .u32 0, .int .u32 0] 80) 0 0 80)
              replace HA7 := Lib.hid (HA7.out.on (bnew _ (.cells #[.int .u32 0, .int .u32 0] 80)))
              replace HH := Lib.hid (HH.out.on (bnew _ (.cells #[.int .u32 0, .int .u32 0] 80)))
              replace HA := Lib.hid (HA.out.on (bnew _ (.cells #[.int .u32 0, .int .u32 0] 80)))
              refine hK.out _ _ HA.out (fun hHeld => ?_)
              clear hK K
              try simp only [Act.put, List.setIfInBounds_toArray, List.set_cons_zero, List.set_cons_succ]
              generalize (W.alloc (.cells #[.int .u32 0, .int .u32 0] 80)).alloc (.cells #[.int .u32 0, .int .u32 0] 80) = W2 at *
              refine wpAnyH_ready (rs := [16]) (by kernel_rfl) (by simp) ?_
              refine AllReadyH.cons rfl (fun K hK => ?_) AllReadyH.nil
              obtain ⟨c0, c1, f0, f1, hz⟩ := HA7.out
              go_simp
              replace HH := Lib.hid (HH.out.setAt (X := W.heap.size) (by have := hW.out; omega) s o')
              replace HA := Lib.hid (HA.out.set_other (g := W.heap.size) (by have := hXW.out; omega) s o')
              replace HA8 := Lib.hid (HA8.out.set_other (m := W.heap.size) (by omega) s o')
              replace HA7 := Lib.hid (HA7.out.set s o')
              refine hK.out _ _ HA.out (fun hHeld => ?_)
              clear hK K c0 c1 f0 f1 hz
              try simp only [Act.put, List.setIfInBounds_toArray, List.set_cons_zero, List.set_cons_succ]
              generalize World.setCell (World.setCell _ _ _) _ _ = W16 at *
              refine wpAnyH_ready (rs := [17]) (by kernel_rfl) (by simp) ?_
              refine AllReadyH.cons rfl (fun K hK => ?_) AllReadyH.nil
              obtain ⟨c0, c1, f0, f1, hz⟩ := HA8.out
              go_simp
              replace HH := Lib.hid (HH.out.setAt (X := W.heap.size + 1) (by have := hW.out; omega) t p)
              replace HA := Lib.hid (HA.out.set_other (g := W.heap.size + 1) (by have := hXW.out; omega) t p)
              replace HA7 := Lib.hid (HA7.out.set_other (m := W.heap.size + 1) (by omega) t p)
              replace HA8 := Lib.hid (HA8.out.set t p)
              refine hK.out _ _ HA.out (fun hHeld => ?_)
              clear hK K c0 c1 f0 f1 hz
              try simp only [Act.put, List.setIfInBounds_toArray, List.set_cons_zero, List.set_cons_succ]
              generalize World.setCell (World.setCell _ _ _) _ _ = W17 at *
              refine wpAnyH_done (by kernel_rfl) ?_ _
              refine NoPanic.normal ?_
              go_wp2_with fail
              go_meet
              exact ⟨_, _, rfl, rfl, HA7.out, HA8.out, HA.out, HH.out⟩
            · go_simp
              have HA8 := Lib.hid (LBox.new W 0 0 80)
              replace HH := Lib.hid (HH.out.on (bnew _ (.cells #[.int .u32 0, .int .u32 0] 80)))
              replace HA := Lib.hid (HA.out.on (bnew _ (.cells #[.int .u32 0, .int .u32 0] 80)))
              have hgX := Lib.hid HA.out.lt
              refine hK.out _ _ HA.out (fun hHeld => ?_)
              clear hK K
              try simp only [Act.put, List.setIfInBounds_toArray, List.set_cons_zero, List.set_cons_succ]
              refine wpAnyH_ready (rs := [14]) (by kernel_rfl) (by simp) ?_
              refine AllReadyH.cons rfl (fun K hK => ?_) AllReadyH.nil
              go_simp
              have HA7 := Lib.hid (LBox.new2 W (.cells #[.int .u32 0, .int .u32 0] 80) 0 0 80)
              replace HA8 := Lib.hid (HA8.out.on (bnew _ (.cells #[.int .u32 0, .int .u32 0] 80)))
              replace HH := Lib.hid (HH.out.on (bnew _ (.cells #[.int .u32 0, .int .u32 0] 80)))
              replace HA := Lib.hid (HA.out.on (bnew _ (.cells #[.int .u32 0, .int .u32 0] 80)))
              refine hK.out _ _ HA.out (fun hHeld => ?_)
              clear hK K
              try simp only [Act.put, List.setIfInBounds_toArray, List.set_cons_zero, List.set_cons_succ]
              generalize (W.alloc (.cells #[.int .u32 0, .int .u32 0] 80)).alloc (.cells #[.int .u32 0, .int .u32 0] 80) = W2 at *
              refine wpAnyH_ready (rs := [16]) (by kernel_rfl) (by simp) ?_
              refine AllReadyH.cons rfl (fun K hK => ?_) AllReadyH.nil
              obtain ⟨c0, c1, f0, f1, hz⟩ := HA7.out
              go_simp
              replace HH := Lib.hid (HH.out.setAt (X := W.heap.size + 1) (by have := hW.out; omega) s o')
              replace HA := Lib.hid (HA.out.set_other (g := W.heap.size + 1) (by have := hXW.out; omega) s o')
              replace HA8 := Lib.hid (HA8.out.set_other (m := W.heap.size + 1) (by omega) s o')
              replace HA7 := Lib.hid (HA7.out.set s o')
              refine hK.out _ _ HA.out (fun hHeld => ?_)
              clear hK K c0 c1 f0 f1 hz
              try simp only [Act.put, List.setIfInBounds_toArray, List.set_cons_zero, List.set_cons_succ]
              generalize World.setCell (World.setCell _ _ _) _ _ = W16 at *
              refine wpAnyH_ready (rs := [17]) (by kernel_rfl) (by simp) ?_
              refine AllReadyH.cons rfl (fun K hK => ?_) AllReadyH.nil
              obtain ⟨c0, c1, f0, f1, hz⟩ := HA8.out
              go_simp
              replace HH := Lib.hid (HH.out.setAt (X := W.heap.size) (by have := hW.out; omega) t p)
              replace HA := Lib.hid (HA.out.set_other (g := W.heap.size) (by have := hXW.out; omega) t p)
              replace HA7 := Lib.hid (HA7.out.set_other (m := W.heap.size) (by omega) t p)
              replace HA8 := Lib.hid (HA8.out.set t p)
              refine hK.out _ _ HA.out (fun hHeld => ?_)
              clear hK K c0 c1 f0 f1 hz
              try simp only [Act.put, List.setIfInBounds_toArray, List.set_cons_zero, List.set_cons_succ]
              generalize World.setCell (World.setCell _ _ _) _ _ = W17 at *
              refine wpAnyH_done (by kernel_rfl) ?_ _
              refine NoPanic.normal ?_
              go_wp2_with fail
              go_meet
              exact ⟨_, _, rfl, rfl, HA7.out, HA8.out, HA.out, HH.out⟩
          case rest =>
            obtain ⟨g7, g8, rfl, rfl, h7, h8, hA, hH⟩ := hcut
            have HH2 := Lib.hid hH
            have HA2 := Lib.hid hA
            have H7 := Lib.hid h7
            have H8 := Lib.hid h8
            have hl1 := look_pair hH.all (s := s) (o := o') (by omega) (by omega) (by omega) (by omega)
            have hl2 := look_pair hH.all (s := t) (o := p) (by omega) (by omega) (by omega) (by omega)
            have hlk := look_set hH.set (s := s) (o := o') (by omega) (by omega) (by omega) (by omega)
            have ne7 : g7 ≠ w.heap.size := h7.ne_map hH.set.own
            have ne8 : g8 ≠ w.heap.size := h8.ne_map hH.set.own
            have na7 : g7 ≠ ba := h7.ne_map hH.all
            have na8 : g8 ≠ ba := h8.ne_map hH.all
            have nX : X ≠ w.heap.size := by have := hH.hba; omega
            have naX : X ≠ ba := by omega
            have hba := Lib.hid hH.hba
            have hbl := Lib.hid hH.bel
            have Hat := Lib.hid hlk.2.2.2
            have cb0 := hlk.2.1
            have cb1 := hlk.2.2.1
            clear hlk hH hA h7 h8
            have HS1 : Hid (Lx.standsB s o' = true) := by unfold Lx.standsB; exact decide_eq_true (by omega)
            have HS2 : Hid (Lx.standsB t p = true) := by unfold Lx.standsB; exact decide_eq_true (by omega)
            generalize hc1 : laid D s o' = c1 at *
            generalize hc2 : laid D t p = c2 at *
            generalize hq1 : Maps.has D (kl s o') = b1 at *
            generalize hq2 : Maps.has D (kl t p) = b2 at *
            have Hc1 := Lib.hid hc1
            have Hq1 := Lib.hid hq1
            have Hq2 := Lib.hid hq2
            clear hc1 hc2 hq1 hq2
            obtain ⟨k0, k1, k2, k3, k4, k5, kf, kz⟩ := HA2.out
            simp only at k0 k1 k2 k3 k4 k5
            clear kf
            obtain ⟨d0, d1, df0, df1, dz⟩ := H7.out
            obtain ⟨e0, e1, ef0, ef1, ez⟩ := H8.out
            generalize hwhat : a.what = wh at *
            generalize hnn : a.n = nn at *
            clear hwhat hnn
            have hwh : wh = 0 ∨ (wh = 1) ∨ wh = 2 ∨ wh = 3 ∨ ((wh == 0) = false ∧ (wh == 1) = false ∧ (wh == 2) = false ∧ (wh == 3) = false) := by simp only [beq_eq_false_iff_ne]; omega
            rcases hwh with rfl | rfl | rfl | rfl | ⟨y0, y1, y2, y3⟩
            · cases b1
              · have E1 : addE D s o' = if Lx.standsB s o' then (if Maps.has D (kl s o') then 9 else 0) else 1 := rfl
                have E2 : addD D s o' nn = if Lx.standsB s o' then (if Maps.has D (kl s o') then D else D.put (kl s o') (.lit (.int .u64 nn))) else D := rfl
                rw [HS1.out, Hq1.out] at E1 E2
                simp only [if_true, Bool.false_eq_true, if_false, Bool.true_and, Bool.and_true, Bool.not_true, Bool.not_false, Bool.false_and, Bool.and_false] at E1 E2
                have HE1 := Lib.hid E1
                have HE2 := Lib.hid E2
                clear E1 E2
                go_wp2_with fail
                refine (add_any (s := s) (o := o') (v := nn) HH2.out.set (by omega) (by omega) (by omega) (by omega) (by omega) n0 n1).mono ?_
                rintro e w3 ⟨rfl, hs3, hg3⟩
                rw [HE1.out]
                rw [HE2.out] at hs3
                obtain ⟨hO3, hb3⟩ := HH2.out.part hg3
                have HO3 := Lib.hid hO3
                have HS3 := Lib.hid hs3
                have hb3' := Lib.hid hb3
                replace H7 := Lib.hid (H7.out.grown hg3 (fun k hk => by injection hk with hk; omega))
                replace H8 := Lib.hid (H8.out.grown hg3 (fun k hk => by injection hk with hk; omega))
                replace HA2 := Lib.hid (HA2.out.grown hg3 (fun k hk => by injection hk with hk; omega))
                clear hO3 hs3 hb3 hg3
                clear k0 k1 k2 k3 k4 k5 kz d0 d1 df0 df1 dz e0 e1 ef0 ef1 ez hl1 hl2
                obtain ⟨k0, k1, k2, k3, k4, k5, kf, kz⟩ := HA2.out
                simp only at k0 k1 k2 k3 k4 k5
                clear kf
                obtain ⟨d0, d1, df0, df1, dz⟩ := H7.out
                obtain ⟨e0, e1, ef0, ef1, ez⟩ := H8.out
                go_wp2_with (at_mapUpdate; (refine wpList_mapUpdate_own _ rfl _ _ _ 79 rfl 80 25 keyedPair Try.underlying79 _ ba j _ rfl HO3.out (by unfold maxLen; omega) _ _ _ rfl rfl (keyOf_pair2 (s := s) (o := o') (by omega) (by omega) (by omega) (by omega)) _ [] (plainElem_int Try.underlying25 (wf_u64 n0 n1)) ?_); intro w4 hown4 hg4; go_frame)
                go_roundw
                case rel => exact ⟨j + 1, _, by omega, by omega, by go_num, HH2.out.join hb3'.out HS3.out hg4 hown4 (HH2.out.inr.put ⟨q1, q2⟩ ⟨by omega, by omega⟩ _)⟩
                case measure => simp [intOf]; omega
              · have E1 : addE D s o' = if Lx.standsB s o' then (if Maps.has D (kl s o') then 9 else 0) else 1 := rfl
                have E2 : addD D s o' nn = if Lx.standsB s o' then (if Maps.has D (kl s o') then D else D.put (kl s o') (.lit (.int .u64 nn))) else D := rfl
                rw [HS1.out, Hq1.out] at E1 E2
                simp only [if_true, Bool.false_eq_true, if_false, Bool.true_and, Bool.and_true, Bool.not_true, Bool.not_false, Bool.false_and, Bool.and_false] at E1 E2
                have HE1 := Lib.hid E1
                have HE2 := Lib.hid E2
                clear E1 E2
                go_wp2_with fail
                refine (add_any (s := s) (o := o') (v := nn) HH2.out.set (by omega) (by omega) (by omega) (by omega) (by omega) n0 n1).mono ?_
                rintro e w3 ⟨rfl, hs3, hg3⟩
                rw [HE1.out]
                rw [HE2.out] at hs3
                obtain ⟨hO3, hb3⟩ := HH2.out.part hg3
                have HO3 := Lib.hid hO3
                have HS3 := Lib.hid hs3
                have hb3' := Lib.hid hb3
                replace H7 := Lib.hid (H7.out.grown hg3 (fun k hk => by injection hk with hk; omega))
                replace H8 := Lib.hid (H8.out.grown hg3 (fun k hk => by injection hk with hk; omega))
                replace HA2 := Lib.hid (HA2.out.grown hg3 (fun k hk => by injection hk with hk; omega))
                clear hO3 hs3 hb3 hg3
                clear k0 k1 k2 k3 k4 k5 kz d0 d1 df0 df1 dz e0 e1 ef0 ef1 ez hl1 hl2
                obtain ⟨k0, k1, k2, k3, k4, k5, kf, kz⟩ := HA2.out
                simp only at k0 k1 k2 k3 k4 k5
                clear kf
                obtain ⟨d0, d1, df0, df1, dz⟩ := H7.out
                obtain ⟨e0, e1, ef0, ef1, ez⟩ := H8.out
                go_wp2_with fail
                go_roundw
                case rel => exact ⟨j + 1, _, by omega, by omega, by go_num, ⟨hb3'.out, HS3.out, HO3.out.mono (Nat.le_succ _), HH2.out.inr, hba.out⟩⟩
                case measure => simp [intOf]; omega
            · cases b1
              · have E1 : addE D s o' = if Lx.standsB s o' then (if Maps.has D (kl s o') then 9 else 0) else 1 := rfl
                have E2 : addD D s o' nn = if Lx.standsB s o' then (if Maps.has D (kl s o') then D else D.put (kl s o') (.lit (.int .u64 nn))) else D := rfl
                rw [HS1.out, Hq1.out] at E1 E2
                simp only [if_true, Bool.false_eq_true, if_false, Bool.true_and, Bool.and_true, Bool.not_true, Bool.not_false, Bool.false_and, Bool.and_false] at E1 E2
                have HE1 := Lib.hid E1
                have HE2 := Lib.hid E2
                clear E1 E2
                go_wp2_with fail
                refine (add_any (s := s) (o := o') (v := nn) HH2.out.set (by omega) (by omega) (by omega) (by omega) (by omega) n0 n1).mono ?_
                rintro e w3 ⟨rfl, hs3, hg3⟩
                rw [HE1.out]
                rw [HE2.out] at hs3
                obtain ⟨hO3, hb3⟩ := HH2.out.part hg3
                have HO3 := Lib.hid hO3
                have HS3 := Lib.hid hs3
                have hb3' := Lib.hid hb3
                replace H7 := Lib.hid (H7.out.grown hg3 (fun k hk => by injection hk with hk; omega))
                replace H8 := Lib.hid (H8.out.grown hg3 (fun k hk => by injection hk with hk; omega))
                replace HA2 := Lib.hid (HA2.out.grown hg3 (fun k hk => by injection hk with hk; omega))
                clear hO3 hs3 hb3 hg3
                clear k0 k1 k2 k3 k4 k5 kz d0 d1 df0 df1 dz e0 e1 ef0 ef1 ez hl1 hl2
                obtain ⟨k0, k1, k2, k3, k4, k5, kf, kz⟩ := HA2.out
                simp only at k0 k1 k2 k3 k4 k5
                clear kf
                obtain ⟨d0, d1, df0, df1, dz⟩ := H7.out
                obtain ⟨e0, e1, ef0, ef1, ez⟩ := H8.out
                go_wp2_with (at_mapUpdate; (refine wpList_mapUpdate_own _ rfl _ _ _ 79 rfl 80 25 keyedPair Try.underlying79 _ ba j _ rfl HO3.out (by unfold maxLen; omega) _ _ _ rfl rfl (keyOf_pair2 (s := s) (o := o') (by omega) (by omega) (by omega) (by omega)) _ [] (plainElem_int Try.underlying25 (wf_u64 n0 n1)) ?_); intro w4 hown4 hg4; go_frame)
                go_roundw
                case rel => exact ⟨j + 1, _, by omega, by omega, by go_num, HH2.out.join hb3'.out HS3.out hg4 hown4 (HH2.out.inr.put ⟨q1, q2⟩ ⟨by omega, by omega⟩ _)⟩
                case measure => simp [intOf]; omega
              · have E1 : addE D s o' = if Lx.standsB s o' then (if Maps.has D (kl s o') then 9 else 0) else 1 := rfl
                have E2 : addD D s o' nn = if Lx.standsB s o' then (if Maps.has D (kl s o') then D else D.put (kl s o') (.lit (.int .u64 nn))) else D := rfl
                rw [HS1.out, Hq1.out] at E1 E2
                simp only [if_true, Bool.false_eq_true, if_false, Bool.true_and, Bool.and_true, Bool.not_true, Bool.not_false, Bool.false_and, Bool.and_false] at E1 E2
                have HE1 := Lib.hid E1
                have HE2 := Lib.hid E2
                clear E1 E2
                go_wp2_with fail
                refine (add_any (s := s) (o := o') (v := nn) HH2.out.set (by omega) (by omega) (by omega) (by omega) (by omega) n0 n1).mono ?_
                rintro e w3 ⟨rfl, hs3, hg3⟩
                rw [HE1.out]
                rw [HE2.out] at hs3
                obtain ⟨hO3, hb3⟩ := HH2.out.part hg3
                have HO3 := Lib.hid hO3
                have HS3 := Lib.hid hs3
                have hb3' := Lib.hid hb3
                replace H7 := Lib.hid (H7.out.grown hg3 (fun k hk => by injection hk with hk; omega))
                replace H8 := Lib.hid (H8.out.grown hg3 (fun k hk => by injection hk with hk; omega))
                replace HA2 := Lib.hid (HA2.out.grown hg3 (fun k hk => by injection hk with hk; omega))
                clear hO3 hs3 hb3 hg3
                clear k0 k1 k2 k3 k4 k5 kz d0 d1 df0 df1 dz e0 e1 ef0 ef1 ez hl1 hl2
                obtain ⟨k0, k1, k2, k3, k4, k5, kf, kz⟩ := HA2.out
                simp only at k0 k1 k2 k3 k4 k5
                clear kf
                obtain ⟨d0, d1, df0, df1, dz⟩ := H7.out
                obtain ⟨e0, e1, ef0, ef1, ez⟩ := H8.out
                go_wp2_with fail
                go_roundw
                case rel => exact ⟨j + 1, _, by omega, by omega, by go_num, ⟨hb3'.out, HS3.out, HO3.out.mono (Nat.le_succ _), HH2.out.inr, hba.out⟩⟩
                case measure => simp [intOf]; omega
            · cases b1
              · have E1 : moveE D s o' t p = if Lx.standsB s o' && Lx.standsB t p then (if Maps.has D (kl s o') then (if !decide (t = s ∧ p = o') && Maps.has D (kl t p) then 9 else 0) else 6) else 1 := rfl
                have E2 : moveD D s o' t p = if Lx.standsB s o' && Lx.standsB t p then (if Maps.has D (kl s o') then (if !decide (t = s ∧ p = o') && Maps.has D (kl t p) then D else (D.del (kl s o')).put (kl t p) (.lit (.int .u64 (laid D s o')))) else D) else D := rfl
                rw [HS1.out, HS2.out, Hq1.out, Hq2.out] at E1 E2
                simp only [if_true, Bool.false_eq_true, if_false, Bool.true_and, Bool.and_true, Bool.not_true, Bool.not_false, Bool.false_and, Bool.and_false] at E1 E2
                have HE1 := Lib.hid E1
                have HE2 := Lib.hid E2
                clear E1 E2
                go_wp2_with fail
                refine (move_any (s := s) (o := o') (t := t) (p := p) HH2.out.set (by omega) (by omega) (by omega) (by omega) (by omega) (by omega) (by omega) (by omega) (by omega)).mono ?_
                rintro e w3 ⟨rfl, hs3, hg3⟩
                rw [HE1.out]
                rw [HE2.out] at hs3
                obtain ⟨hO3, hb3⟩ := HH2.out.part hg3
                have HO3 := Lib.hid hO3
                have HS3 := Lib.hid hs3
                have hb3' := Lib.hid hb3
                replace H7 := Lib.hid (H7.out.grown hg3 (fun k hk => by injection hk with hk; omega))
                replace H8 := Lib.hid (H8.out.grown hg3 (fun k hk => by injection hk with hk; omega))
                replace HA2 := Lib.hid (HA2.out.grown hg3 (fun k hk => by injection hk with hk; omega))
                clear hO3 hs3 hb3 hg3
                clear k0 k1 k2 k3 k4 k5 kz d0 d1 df0 df1 dz e0 e1 ef0 ef1 ez hl1 hl2
                obtain ⟨k0, k1, k2, k3, k4, k5, kf, kz⟩ := HA2.out
                simp only at k0 k1 k2 k3 k4 k5
                clear kf
                obtain ⟨d0, d1, df0, df1, dz⟩ := H7.out
                obtain ⟨e0, e1, ef0, ef1, ez⟩ := H8.out
                have hep := fun w => run_eql_pair s o' t p w
                have hgp := guard_pair
                go_wp2_with fail
                go_roundw
                case rel => exact ⟨j + 1, _, by omega, by omega, by go_num, ⟨hb3'.out, HS3.out, HO3.out.mono (Nat.le_succ _), HH2.out.inr, hba.out⟩⟩
                case measure => simp [intOf]; omega
              · cases b2
                · have hns : ¬ (t = s ∧ p = o') := fun e => by have h1 := Hq1.out; have h2 := Hq2.out; rw [e.1, e.2, h1] at h2; cases h2
                  have E1 : moveE D s o' t p = if Lx.standsB s o' && Lx.standsB t p then (if Maps.has D (kl s o') then (if !decide (t = s ∧ p = o') && Maps.has D (kl t p) then 9 else 0) else 6) else 1 := rfl
                  have E2 : moveD D s o' t p = if Lx.standsB s o' && Lx.standsB t p then (if Maps.has D (kl s o') then (if !decide (t = s ∧ p = o') && Maps.has D (kl t p) then D else (D.del (kl s o')).put (kl t p) (.lit (.int .u64 (laid D s o')))) else D) else D := rfl
                  rw [HS1.out, HS2.out, Hq1.out, Hq2.out] at E1 E2
                  rw [decide_eq_false hns] at E1 E2
                  simp only [if_true, Bool.false_eq_true, if_false, Bool.true_and, Bool.and_true, Bool.not_true, Bool.not_false, Bool.false_and, Bool.and_false] at E1 E2
                  rw [Hc1.out] at E2
                  clear hns
                  have HE1 := Lib.hid E1
                  have HE2 := Lib.hid E2
                  clear E1 E2
                  go_wp2_with fail
                  refine (move_any (s := s) (o := o') (t := t) (p := p) HH2.out.set (by omega) (by omega) (by omega) (by omega) (by omega) (by omega) (by omega) (by omega) (by omega)).mono ?_
                  rintro e w3 ⟨rfl, hs3, hg3⟩
                  rw [HE1.out]
                  rw [HE2.out] at hs3
                  obtain ⟨hO3, hb3⟩ := HH2.out.part hg3
                  have HO3 := Lib.hid hO3
                  have HS3 := Lib.hid hs3
                  have hb3' := Lib.hid hb3
                  replace H7 := Lib.hid (H7.out.grown hg3 (fun k hk => by injection hk with hk; omega))
                  replace H8 := Lib.hid (H8.out.grown hg3 (fun k hk => by injection hk with hk; omega))
                  replace HA2 := Lib.hid (HA2.out.grown hg3 (fun k hk => by injection hk with hk; omega))
                  clear hO3 hs3 hb3 hg3
                  clear k0 k1 k2 k3 k4 k5 kz d0 d1 df0 df1 dz e0 e1 ef0 ef1 ez hl1 hl2
                  obtain ⟨k0, k1, k2, k3, k4, k5, kf, kz⟩ := HA2.out
                  simp only at k0 k1 k2 k3 k4 k5
                  clear kf
                  obtain ⟨d0, d1, df0, df1, dz⟩ := H7.out
                  obtain ⟨e0, e1, ef0, ef1, ez⟩ := H8.out
                  have hep := fun w => run_eql_pair s o' t p w
                  have hgp := guard_pair
                  go_wp2_with (first | (at_delete; (refine wpList_delete_own _ rfl _ _ 79 80 rfl 25 keyedPair Try.underlying79 _ ba j _ rfl HO3.out _ _ rfl (keyOf_pair2 (s := s) (o := o') (by omega) (by omega) (by omega) (by omega)) ?_); intro w4 hown4 ht4; have H84 := H8.out.grown ht4.grown (fun k hk => by injection hk with hk; omega); obtain ⟨x0, x1, xf0, xf1, xz⟩ := H84) | (at_mapUpdate; (refine wpList_mapUpdate_own _ rfl _ _ _ 79 rfl 80 25 keyedPair Try.underlying79 _ ba j _ rfl hown4 (by unfold maxLen; omega) _ _ _ rfl rfl (keyOf_pair2 (s := t) (o := p) (by omega) (by omega) (by omega) (by omega)) _ [] (plainElem_int Try.underlying25 (wf_u64 cb0 cb1)) ?_); intro w5 hown5 hg5; go_frame))
                  go_roundw
                  case rel => exact ⟨j + 1, _, by omega, by omega, by go_num, HH2.out.join hb3'.out HS3.out (ht4.grown.trans hg5) hown5 ((HH2.out.inr.del _).put ⟨q5, q6⟩ ⟨by omega, by omega⟩ _)⟩
                  case measure => simp [intOf]; omega
                · by_cases hsm : t = s ∧ p = o'
                  · have hsd : decide (t = s ∧ p = o') = true := decide_eq_true hsm
                    have E1 : moveE D s o' t p = if Lx.standsB s o' && Lx.standsB t p then (if Maps.has D (kl s o') then (if !decide (t = s ∧ p = o') && Maps.has D (kl t p) then 9 else 0) else 6) else 1 := rfl
                    have E2 : moveD D s o' t p = if Lx.standsB s o' && Lx.standsB t p then (if Maps.has D (kl s o') then (if !decide (t = s ∧ p = o') && Maps.has D (kl t p) then D else (D.del (kl s o')).put (kl t p) (.lit (.int .u64 (laid D s o')))) else D) else D := rfl
                    rw [HS1.out, HS2.out, Hq1.out, Hq2.out] at E1 E2
                    rw [hsd] at E1 E2
                    simp only [if_true, Bool.false_eq_true, if_false, Bool.true_and, Bool.and_true, Bool.not_true, Bool.not_false, Bool.false_and, Bool.and_false] at E1 E2
                    rw [Hc1.out] at E2
                    have hee : decide (s = t ∧ o' = p) = true := decide_eq_true ⟨hsm.1.symm, hsm.2.symm⟩
                    have Hee := Lib.hid hee
                    have Hsm := Lib.hid hsm
                    clear hee hsm hsd
                    have HE1 := Lib.hid E1
                    have HE2 := Lib.hid E2
                    clear E1 E2
                    go_wp2_with fail
                    refine (move_any (s := s) (o := o') (t := t) (p := p) HH2.out.set (by omega) (by omega) (by omega) (by omega) (by omega) (by omega) (by omega) (by omega) (by omega)).mono ?_
                    rintro e w3 ⟨rfl, hs3, hg3⟩
                    rw [HE1.out]
                    rw [HE2.out] at hs3
                    obtain ⟨hO3, hb3⟩ := HH2.out.part hg3
                    have HO3 := Lib.hid hO3
                    have HS3 := Lib.hid hs3
                    have hb3' := Lib.hid hb3
                    replace H7 := Lib.hid (H7.out.grown hg3 (fun k hk => by injection hk with hk; omega))
                    replace H8 := Lib.hid (H8.out.grown hg3 (fun k hk => by injection hk with hk; omega))
                    replace HA2 := Lib.hid (HA2.out.grown hg3 (fun k hk => by injection hk with hk; omega))
                    clear hO3 hs3 hb3 hg3
                    clear k0 k1 k2 k3 k4 k5 kz d0 d1 df0 df1 dz e0 e1 ef0 ef1 ez hl1 hl2
                    obtain ⟨k0, k1, k2, k3, k4, k5, kf, kz⟩ := HA2.out
                    simp only at k0 k1 k2 k3 k4 k5
                    clear kf
                    obtain ⟨d0, d1, df0, df1, dz⟩ := H7.out
                    obtain ⟨e0, e1, ef0, ef1, ez⟩ := H8.out
                    have hep := fun w => run_eql_pair s o' t p w
                    have hgp := guard_pair
                    rw [Hee.out] at hep
                    have hD : (D.del (kl s o')).put (kl t p) (.lit (.int .u64 c1)) = D := by
                      have h1 := HS3.out.own.canon keyedLoc
                      rw [Hsm.out.1, Hsm.out.2, ← Hc1.out] at h1 ⊢
                      exact move_self (HH2.out.all.canon keyedPair) h1 HH2.out.all.isMap Hq1.out (by rw [Hc1.out]; exact Hat.out)
                    rw [hD] at HS3
                    clear hD
                    go_wp2_with fail
                    go_roundw
                    case rel => exact ⟨j + 1, _, by omega, by omega, by go_num, ⟨hb3'.out, HS3.out, HO3.out.mono (Nat.le_succ _), HH2.out.inr, hba.out⟩⟩
                    case measure => simp [intOf]; omega
                  · have E1 : moveE D s o' t p = if Lx.standsB s o' && Lx.standsB t p then (if Maps.has D (kl s o') then (if !decide (t = s ∧ p = o') && Maps.has D (kl t p) then 9 else 0) else 6) else 1 := rfl
                    have E2 : moveD D s o' t p = if Lx.standsB s o' && Lx.standsB t p then (if Maps.has D (kl s o') then (if !decide (t = s ∧ p = o') && Maps.has D (kl t p) then D else (D.del (kl s o')).put (kl t p) (.lit (.int .u64 (laid D s o')))) else D) else D := rfl
                    rw [HS1.out, HS2.out, Hq1.out, Hq2.out] at E1 E2
                    rw [decide_eq_false hsm] at E1 E2
                    simp only [if_true, Bool.false_eq_true, if_false, Bool.true_and, Bool.and_true, Bool.not_true, Bool.not_false, Bool.false_and, Bool.and_false] at E1 E2
                    have hee : decide (s = t ∧ o' = p) = false := decide_eq_false (fun e => hsm ⟨e.1.symm, e.2.symm⟩)
                    have Hee := Lib.hid hee
                    clear hee hsm
                    have HE1 := Lib.hid E1
                    have HE2 := Lib.hid E2
                    clear E1 E2
                    go_wp2_with fail
                    refine (move_any (s := s) (o := o') (t := t) (p := p) HH2.out.set (by omega) (by omega) (by omega) (by omega) (by omega) (by omega) (by omega) (by omega) (by omega)).mono ?_
                    rintro e w3 ⟨rfl, hs3, hg3⟩
                    rw [HE1.out]
                    rw [HE2.out] at hs3
                    obtain ⟨hO3, hb3⟩ := HH2.out.part hg3
                    have HO3 := Lib.hid hO3
                    have HS3 := Lib.hid hs3
                    have hb3' := Lib.hid hb3
                    replace H7 := Lib.hid (H7.out.grown hg3 (fun k hk => by injection hk with hk; omega))
                    replace H8 := Lib.hid (H8.out.grown hg3 (fun k hk => by injection hk with hk; omega))
                    replace HA2 := Lib.hid (HA2.out.grown hg3 (fun k hk => by injection hk with hk; omega))
                    clear hO3 hs3 hb3 hg3
                    clear k0 k1 k2 k3 k4 k5 kz d0 d1 df0 df1 dz e0 e1 ef0 ef1 ez hl1 hl2
                    obtain ⟨k0, k1, k2, k3, k4, k5, kf, kz⟩ := HA2.out
                    simp only at k0 k1 k2 k3 k4 k5
                    clear kf
                    obtain ⟨d0, d1, df0, df1, dz⟩ := H7.out
                    obtain ⟨e0, e1, ef0, ef1, ez⟩ := H8.out
                    have hep := fun w => run_eql_pair s o' t p w
                    have hgp := guard_pair
                    rw [Hee.out] at hep
                    go_wp2_with fail
                    go_roundw
                    case rel => exact ⟨j + 1, _, by omega, by omega, by go_num, ⟨hb3'.out, HS3.out, HO3.out.mono (Nat.le_succ _), HH2.out.inr, hba.out⟩⟩
                    case measure => simp [intOf]; omega
            · cases b1
              · have E1 : dropE D s o' = if Maps.has D (kl s o') then 0 else 6 := rfl
                have E2 : dropD D s o' = if Maps.has D (kl s o') then D.del (kl s o') else D := rfl
                rw [Hq1.out] at E1 E2
                simp only [if_true, Bool.false_eq_true, if_false, Bool.true_and, Bool.and_true, Bool.not_true, Bool.not_false, Bool.false_and, Bool.and_false] at E1 E2
                have HE1 := Lib.hid E1
                have HE2 := Lib.hid E2
                clear E1 E2
                go_wp2_with fail
                refine (drop_any (s := s) (o := o') HH2.out.set (by omega) (by omega) (by omega) (by omega)).mono ?_
                rintro e w3 ⟨rfl, hs3, hg3⟩
                rw [HE1.out]
                rw [HE2.out] at hs3
                obtain ⟨hO3, hb3⟩ := HH2.out.part hg3
                have HO3 := Lib.hid hO3
                have HS3 := Lib.hid hs3
                have hb3' := Lib.hid hb3
                replace H7 := Lib.hid (H7.out.grown hg3 (fun k hk => by injection hk with hk; omega))
                replace H8 := Lib.hid (H8.out.grown hg3 (fun k hk => by injection hk with hk; omega))
                replace HA2 := Lib.hid (HA2.out.grown hg3 (fun k hk => by injection hk with hk; omega))
                clear hO3 hs3 hb3 hg3
                clear k0 k1 k2 k3 k4 k5 kz d0 d1 df0 df1 dz e0 e1 ef0 ef1 ez hl1 hl2
                obtain ⟨k0, k1, k2, k3, k4, k5, kf, kz⟩ := HA2.out
                simp only at k0 k1 k2 k3 k4 k5
                clear kf
                obtain ⟨d0, d1, df0, df1, dz⟩ := H7.out
                obtain ⟨e0, e1, ef0, ef1, ez⟩ := H8.out
                go_wp2_with (at_delete; (refine wpList_delete_own _ rfl _ _ 79 80 rfl 25 keyedPair Try.underlying79 _ ba j _ rfl HO3.out _ _ rfl (keyOf_pair2 (s := s) (o := o') (by omega) (by omega) (by omega) (by omega)) ?_); intro w4 hown4 ht4; go_frame)
                rw [del_of_not_has Hq1.out] at hown4
                go_roundw
                case rel => exact ⟨j + 1, _, by omega, by omega, by go_num, (HH2.out.join hb3'.out HS3.out ht4.grown hown4 HH2.out.inr).mono (Nat.le_succ _)⟩
                case measure => simp [intOf]; omega
              · have E1 : dropE D s o' = if Maps.has D (kl s o') then 0 else 6 := rfl
                have E2 : dropD D s o' = if Maps.has D (kl s o') then D.del (kl s o') else D := rfl
                rw [Hq1.out] at E1 E2
                simp only [if_true, Bool.false_eq_true, if_false, Bool.true_and, Bool.and_true, Bool.not_true, Bool.not_false, Bool.false_and, Bool.and_false] at E1 E2
                have HE1 := Lib.hid E1
                have HE2 := Lib.hid E2
                clear E1 E2
                go_wp2_with fail
                refine (drop_any (s := s) (o := o') HH2.out.set (by omega) (by omega) (by omega) (by omega)).mono ?_
                rintro e w3 ⟨rfl, hs3, hg3⟩
                rw [HE1.out]
                rw [HE2.out] at hs3
                obtain ⟨hO3, hb3⟩ := HH2.out.part hg3
                have HO3 := Lib.hid hO3
                have HS3 := Lib.hid hs3
                have hb3' := Lib.hid hb3
                replace H7 := Lib.hid (H7.out.grown hg3 (fun k hk => by injection hk with hk; omega))
                replace H8 := Lib.hid (H8.out.grown hg3 (fun k hk => by injection hk with hk; omega))
                replace HA2 := Lib.hid (HA2.out.grown hg3 (fun k hk => by injection hk with hk; omega))
                clear hO3 hs3 hb3 hg3
                clear k0 k1 k2 k3 k4 k5 kz d0 d1 df0 df1 dz e0 e1 ef0 ef1 ez hl1 hl2
                obtain ⟨k0, k1, k2, k3, k4, k5, kf, kz⟩ := HA2.out
                simp only at k0 k1 k2 k3 k4 k5
                clear kf
                obtain ⟨d0, d1, df0, df1, dz⟩ := H7.out
                obtain ⟨e0, e1, ef0, ef1, ez⟩ := H8.out
                go_wp2_with (at_delete; (refine wpList_delete_own _ rfl _ _ 79 80 rfl 25 keyedPair Try.underlying79 _ ba j _ rfl HO3.out _ _ rfl (keyOf_pair2 (s := s) (o := o') (by omega) (by omega) (by omega) (by omega)) ?_); intro w4 hown4 ht4; go_frame)
                go_roundw
                case rel => exact ⟨j + 1, _, by omega, by omega, by go_num, (HH2.out.join hb3'.out HS3.out ht4.grown hown4 (HH2.out.inr.del _)).mono (Nat.le_succ _)⟩
                case measure => simp [intOf]; omega
            · go_wp2_with fail
              go_roundw
              case rel => exact ⟨j + 1, _, by omega, by omega, by go_num, HH2.out.mono (Nat.le_succ _)⟩
              case measure => simp [intOf]; omega
      · obtain rfl : j = 100 := by omega
        go_wp2_with fail
        refine loop2c (by kernel_rfl) w _ ba 100 D _ (Lib.hid (HH.out.on (bnew _ _))) (by omega) ?_ _ _ _ _ _ _ _ _ _ _ _ _ _ _ _ _ _ _ _ _ _ _ _ _ _ _ _ _ _ _ _ _ _ _ _ _ _ _ _ _ _ _ _ _ _ _ _ _ _ _ _ _ _ _ _ _ _ _ _ _ _ _ _ _ _ _ _ _ _ _ _ _ _ _ _ _ _ _ _ _ _ _ _ _ _ _ _ _ _ _ _ _ _ _ _ _ _ _ _ _ _ _ _ _ _ _ _ _ _ _ _ _ _ _ _ _ _ _ _ _ _ _ _ _ _ _ _ _ _ _ _ _ _ _ _ _ _ _ _ _ _ _ _ _ _ _ _ _ _ _ _ _ _ _ _ _ _ _ _ _ _ _ _ _ _ _ _ _ _ _ _ _ _ _ _ _ _ _ _ _ _ _ _ _ _ _ _ _ _ _ _ _ _ _ _ _ _ _ _ _ _ _ _ _ _ _ _ _ _ _ _ _ _ _ _ _ _ _ _
        clear HH
        intro x0 x1 x2 x5 x6 x7 x8 x9 x10 x11 x12 x14 x15 x16 x17 x18 x19 x20 x21 x22 x23 x24 x25 x26 x27 x28 x29 x30 x31 x32 x33 x34 x35 x36 x37 x38 x39 x40 x41 x42 x43 x44 x45 x46 x47 x48 x49 x50 x51 x52 x53 x54 x55 x56 x57 x58 x59 x60 x61 x62 x63 x64 x65 x66 x67 x68 x69 x70 x71 x72 x73 x74 x75 x76 x77 x78 x79 x80 x81 x82 x83 x84 x85 x86 x87 x88 x89 x90 x91 x92 x93 x94 x95 x96 x97 x98 x99 x100 x101 x102 x103 x104 x105 x106 x107 x108 x109 x110 x111 x112 x113 x114 x115 x116 x117 x118 x119 x120 x121 x122 x123 x124 x125 x126 x127 x128 x129 x130 x131 x132 x133 x134 x135 x136 x137 x138 x139 x140 x141 x142 x143 x144 x145 x146 x147 x148 x149 x150 x151 x152 x153 x154 x155 x156 x157 x158 x159 x160 x161 x162 x163 x164 x165 x166 x167 x168 x169 x170 x171 x172 x173 x174 x175 x176 x177 x178 x179 x180 x181 x182 x183 x184 x185 x186 x187 x188 x189 x190 x191 x192 x193 x194 x195 x196 x197 x198 x199 x200 x201 x202 x203 x204 x205 x206 x207 x208 x209 x210 x211 x212 x213 x214 x215 x216 x217 x218 x219 x220 x221 x222 wx hI
        have HH := Lib.hid hI
        clear hI
        go_wp2_with (at_len; refine wpList_len_own _ rfl _ 79 rfl 80 25 Try.underlying79 _ ba 100 D rfl HH.out.all ?_)
        refine (len_any HH.out.set).mono ?_
        rintro e w5 ⟨rfl, rfl⟩
        go_wp2_with fail
        refine (wakes3_any _).mono ?_
        rintro e w6 ⟨rfl, hb⟩
        replace HH := Lib.hid (HH.out.on hb)
        go_wp2_with fail
        go_ret
        exact ⟨rfl, HH.out.bel⟩
    · skip
      go_wp2_with fail
      refine loop2c (by kernel_rfl) w _ ba j D _ HH (by omega) ?_ _ _ _ _ _ _ _ _ _ _ _ _ _ _ _ _ _ _ _ _ _ _ _ _ _ _ _ _ _ _ _ _ _ _ _ _ _ _ _ _ _ _ _ _ _ _ _ _ _ _ _ _ _ _ _ _ _ _ _ _ _ _ _ _ _ _ _ _ _ _ _ _ _ _ _ _ _ _ _ _ _ _ _ _ _ _ _ _ _ _ _ _ _ _ _ _ _ _ _ _ _ _ _ _ _ _ _ _ _ _ _ _ _ _ _ _ _ _ _ _ _ _ _ _ _ _ _ _ _ _ _ _ _ _ _ _ _ _ _ _ _ _ _ _ _ _ _ _ _ _ _ _ _ _ _ _ _ _ _ _ _ _ _ _ _ _ _ _ _ _ _ _ _ _ _ _ _ _ _ _ _ _ _ _ _ _ _ _ _ _ _ _ _ _ _ _ _ _ _ _ _ _ _ _ _ _ _ _ _ _ _ _ _ _ _ _ _ _ _
      clear HH
      intro x0 x1 x2 x5 x6 x7 x8 x9 x10 x11 x12 x14 x15 x16 x17 x18 x19 x20 x21 x22 x23 x24 x25 x26 x27 x28 x29 x30 x31 x32 x33 x34 x35 x36 x37 x38 x39 x40 x41 x42 x43 x44 x45 x46 x47 x48 x49 x50 x51 x52 x53 x54 x55 x56 x57 x58 x59 x60 x61 x62 x63 x64 x65 x66 x67 x68 x69 x70 x71 x72 x73 x74 x75 x76 x77 x78 x79 x80 x81 x82 x83 x84 x85 x86 x87 x88 x89 x90 x91 x92 x93 x94 x95 x96 x97 x98 x99 x100 x101 x102 x103 x104 x105 x106 x107 x108 x109 x110 x111 x112 x113 x114 x115 x116 x117 x118 x119 x120 x121 x122 x123 x124 x125 x126 x127 x128 x129 x130 x131 x132 x133 x134 x135 x136 x137 x138 x139 x140 x141 x142 x143 x144 x145 x146 x147 x148 x149 x150 x151 x152 x153 x154 x155 x156 x157 x158 x159 x160 x161 x162 x163 x164 x165 x166 x167 x168 x169 x170 x171 x172 x173 x174 x175 x176 x177 x178 x179 x180 x181 x182 x183 x184 x185 x186 x187 x188 x189 x190 x191 x192 x193 x194 x195 x196 x197 x198 x199 x200 x201 x202 x203 x204 x205 x206 x207 x208 x209 x210 x211 x212 x213 x214 x215 x216 x217 x218 x219 x220 x221 x222 wx hI
      have HH := Lib.hid hI
      clear hI
      go_wp2_with (at_len; refine wpList_len_own _ rfl _ 79 rfl 80 25 Try.underlying79 _ ba j D rfl HH.out.all ?_)
      refine (len_any HH.out.set).mono ?_
      rintro e w5 ⟨rfl, rfl⟩
      go_wp2_with fail
      refine (wakes3_any _).mono ?_
      rintro e w6 ⟨rfl, hb⟩
      replace HH := Lib.hid (HH.out.on hb)
      go_wp2_with fail
      go_ret
      exact ⟨rfl, HH.out.bel⟩
end Go.Proofs.Ytikdpldfklbdoaa.locHas
