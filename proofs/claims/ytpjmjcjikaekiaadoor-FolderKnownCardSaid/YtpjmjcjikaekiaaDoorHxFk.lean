
/-
  Layer 6: FolderKnown's names, and the states through which its folder goes.
-/
import Derived.Test.YtpjmjcjikaekiaaDoorHxNil
import Derived.Lib.ItoaNum
set_option linter.unusedVariables false
set_option linter.unusedSimpArgs false
namespace Go.Proofs.YtpjmjcjikaekiaaDoor
open Go.RowKit Go.Maps

theorem dec_step (u : Nat) (h : ¬ u < 10) : Lib.decDigits u = Lib.decDigits (u / 10) ++ [UInt8.ofNat (48 + u % 10)] := by rw [Lib.decDigits, dif_neg h]
theorem ofNat48 {k : Nat} (h : k < 10) : (UInt8.ofNat (48 + k)).toNat = 48 + k := by
  rw [UInt8.toNat_ofNat']
  omega
def valD (l : List UInt8) : Nat := l.foldl (fun a c => a * 10 + (c.toNat - 48)) 0
theorem valD_dec : ∀ (n u : Nat), u ≤ n → valD (Lib.decDigits u) = u := by
  intro n
  induction n with
  | zero =>
    intro u hu
    obtain rfl : u = 0 := by omega
    rw [Lib.decDigits_one (by omega)]
    decide
  | succ n ih =>
    intro u hu
    by_cases h : u < 10
    · rw [Lib.decDigits_one h]
      simp only [valD, List.foldl_cons, List.foldl_nil]
      rw [ofNat48 h]
      omega
    · rw [dec_step u h]
      unfold valD
      rw [List.foldl_append]
      have h1 := ih (u / 10) (by omega)
      unfold valD at h1
      rw [h1]
      simp only [List.foldl_cons, List.foldl_nil]
      rw [ofNat48 (Nat.mod_lt _ (by omega))]
      omega
theorem dec_inj {a b : Nat} (h : Lib.decDigits a = Lib.decDigits b) : a = b := by
  have h1 := valD_dec a a (Nat.le_refl _)
  have h2 := valD_dec b b (Nat.le_refl _)
  rw [h] at h1
  omega
theorem dec_ok : ∀ (n u : Nat), u ≤ n → ∀ c ∈ Lib.decDigits u, okB c = true := by
  intro n
  induction n with
  | zero =>
    intro u hu c hc
    obtain rfl : u = 0 := by omega
    rw [Lib.decDigits_one (by omega)] at hc
    simp at hc
    subst hc
    decide
  | succ n ih =>
    intro u hu c hc
    by_cases h : u < 10
    · rw [Lib.decDigits_one h] at hc
      simp only [List.mem_singleton] at hc
      subst hc
      rw [okB_iff, ofNat48 h]
      omega
    · rw [dec_step u h] at hc
      rcases List.mem_append.1 hc with hc | hc
      · exact ih (u / 10) (by omega) c hc
      · simp only [List.mem_singleton] at hc
        subst hc
        rw [okB_iff, ofNat48 (Nat.mod_lt _ (by omega))]
        omega
theorem dec_len {u : Nat} (h : u < 1000) : (Lib.decDigits u).length ≤ 3 := by
  by_cases h1 : u < 10
  · rw [Lib.decDigits_one h1]; simp
  · rw [dec_step u h1]
    by_cases h2 : u / 10 < 10
    · rw [Lib.decDigits_one h2]; simp
    · rw [dec_step _ h2, Lib.decDigits_one (by omega)]; simp
/-- "f." and a number -/
def nF (i : Nat) : ByteArray := { data := #[102, 46] } ++ { data := (Lib.decDigits i).toArray }
theorem nF_list (i : Nat) : (nF i).data.toList = 102 :: 46 :: Lib.decDigits i := by
  unfold nF
  rw [ByteArray.data_append]
  simp
theorem nF_inj {i j : Nat} (h : nF i = nF j) : i = j := by
  have h1 := congrArg (fun b => b.data.toList) h
  simp only [nF_list] at h1
  exact dec_inj (by simpa using h1)
theorem nF_size {i : Nat} (h : i < 1000) : (nF i).size ≤ 5 := by
  have h1 := congrArg List.length (nF_list i)
  rw [Array.length_toList] at h1
  have h2 := dec_len h
  simp only [List.length_cons] at h1
  show (nF i).data.size ≤ 5
  omega
theorem nF_may {i : Nat} (h : i < 1000) : mayN (nF i) = true := by
  have h1 := nF_size h
  have h2 : 0 < (nF i).size := by
    have h1 := congrArg List.length (nF_list i)
    rw [Array.length_toList] at h1
    simp only [List.length_cons] at h1
    show 0 < (nF i).data.size
    omega
  unfold mayN
  rw [nF_list]
  simp only [List.all_cons, Bool.and_eq_true, decide_eq_true_eq, List.all_eq_true]
  exact ⟨⟨h2, by omega⟩, by decide, by decide, dec_ok i i (Nat.le_refl _)⟩
theorem withL_new {l : List Ent} {n : ByteArray} (i : Nat) (h : findL l n = none) : (withL l n i).length = l.length + 1 := by
  rw [withL_eq, insL_length]
  have : withoutL l n = l := by
    unfold withoutL
    rw [List.filter_eq_self]
    intro x hx
    have := toList_ne (findL_none.1 h x hx)
    simpa using this
  rw [this]
theorem without_old {l : List Ent} {n : ByteArray} (h : (findL l n).isSome = true) : (withoutL l n).length < l.length := by
  obtain ⟨i, hi⟩ := Option.isSome_iff_exists.1 h
  have hm := findL_mem hi
  unfold withoutL
  rw [List.length_filter_lt_length_iff_exists]
  exact ⟨_, hm, by simp⟩
/-- the state behind i names -/
def sF : Nat → PSt
  | 0 => PSt.new
  | i + 1 => (sF i).made (nF i)
theorem sF_last (i : Nat) : (sF i).last = i := by
  induction i with
  | zero => rfl
  | succ i ih => show (sF i).last + 1 = i + 1; omega
theorem sF_safe (i : Nat) : (sF i).safe = [] := by
  induction i with
  | zero => rfl
  | succ i ih => exact ih
theorem sF_deeds (i : Nat) : (sF i).deeds.length = i := by
  induction i with
  | zero => rfl
  | succ i ih => show ((sF i).deeds ++ [_]).length = i + 1; simp [ih]
theorem sF_now (i : Nat) : (sF (i + 1)).now = withL (sF i).now (nF i) (i + 1) := by
  have h1 := PSt.push_now { sF i with last := (sF i).last + 1 } (.mk (nF i) ((sF i).last + 1))
  have h2 : (sF (i + 1)).now = Dd.app (.mk (nF i) ((sF i).last + 1)) (sF i).now := h1
  rw [h2, sF_last]
  rfl
theorem sF_sort (i : Nat) : SortE (sF i).now := by
  induction i with
  | zero => exact SortE.nil_
  | succ i ih => rw [sF_now]; exact sortE_with ih _ _
theorem sF_mem (i : Nat) (x : Ent) : x ∈ (sF i).now ↔ ∃ j, j < i ∧ x = (nF j, j + 1) := by
  induction i with
  | zero => simp [sF, PSt.new, PSt.now, doAll]
  | succ i ih =>
    rw [sF_now, mem_withL, ih]
    constructor
    · rintro (h | ⟨⟨j, hj, h⟩, _⟩)
      · exact ⟨i, by omega, h⟩
      · exact ⟨j, by omega, h⟩
    · rintro ⟨j, hj, h⟩
      by_cases hji : j = i
      · subst hji; exact .inl h
      · exact .inr ⟨⟨j, by omega, h⟩, by rw [h]; exact fun e => hji (nF_inj e)⟩
theorem sF_find (i : Nat) {j : Nat} (hj : j < i) : findL (sF i).now (nF j) = some (j + 1) := (findL_iff (sF_sort i)).2 ((sF_mem i _).2 ⟨j, hj, rfl⟩)
theorem sF_none (i : Nat) {n : ByteArray} (h : ∀ j, j < i → n ≠ nF j) : findL (sF i).now n = none := findL_none.2 (fun x hx e => by
  obtain ⟨j, hj, h2⟩ := (sF_mem i x).1 hx
  exact h j hj (by rw [← e, h2]))
theorem sF_len (i : Nat) : (sF i).now.length = i := by
  induction i with
  | zero => rfl
  | succ i ih => rw [sF_now, withL_new _ (sF_none i (fun j hj e => by have := nF_inj e; omega)), ih]
theorem createF_ (i : Nat) (h : i < 256) : createP (sF i) (nF i) = (i + 1, 0, sF (i + 1)) := by
  unfold createP
  rw [if_neg (by rw [nF_may (by omega)]; simp), sF_none i (fun j hj e => by have := nF_inj e; omega), if_neg (by simp), if_neg (by rw [sF_len]; omega), sF_last]
  rfl
/-- the names that FolderKnown writes out -/
def nOne : ByteArray := { data := #[111, 110, 101, 45, 109, 111, 114, 101] }
def nNone : ByteArray := { data := #[110, 111, 110, 101] }
theorem nF7 : nF 7 = { data := #[102, 46, 55] } := by unfold nF; rw [Lib.decDigits_one (by omega)]; rfl
theorem nF1 : nF 1 = { data := #[102, 46, 49] } := by unfold nF; rw [Lib.decDigits_one (by omega)]; rfl
theorem nF2 : nF 2 = { data := #[102, 46, 50] } := by unfold nF; rw [Lib.decDigits_one (by omega)]; rfl
theorem nF256 : nF 256 = { data := #[102, 46, 50, 53, 54] } := by
  unfold nF
  rw [dec_step 256 (by omega), dec_step (256 / 10) (by omega), Lib.decDigits_one (by omega)]
  rfl
theorem head_ne {n : ByteArray} (c : UInt8) (r : List UInt8) (hn : n.data.toList = c :: r) (hc : c ≠ 102) (j : Nat) : n ≠ nF j := fun e => by
  rw [e, nF_list] at hn
  injection hn with h1 _
  exact hc h1.symm
theorem kOne : createP (sF 256) nOne = (0, 7, sF 256) := by
  unfold createP
  rw [if_neg (by decide), sF_none 256 (fun j _ => head_ne 111 _ rfl (by decide) j), if_neg (by simp), if_pos (by rw [sF_len]; omega)]
theorem k7 : createP (sF 256) (nF 7) = (0, 9, sF 256) := by
  unfold createP
  rw [if_neg (by rw [nF_may (by omega)]; simp), sF_find 256 (by omega), if_pos (by simp)]
theorem kBig : createP (sF 256) { data := #[70] } = (0, 1, sF 256) := by
  unfold createP
  rw [if_pos (by decide)]
theorem kTo : renameP (sF 256) (nF 1) { data := #[] } = (1, sF 256) := by
  unfold renameP
  rw [if_pos (.inr (by decide))]
theorem kNone : renameP (sF 256) nNone (nF 1) = (6, sF 256) := by
  unfold renameP
  rw [if_neg (by rw [nF_may (by omega)]; decide), sF_none 256 (fun j _ => head_ne 110 _ rfl (by decide) j), if_pos (by simp)]
theorem kSame : renameP (sF 256) (nF 1) (nF 1) = (0, sF 256) := by
  unfold renameP
  rw [if_neg (by rw [nF_may (by omega)]; simp), sF_find 256 (by omega), if_neg (by simp), if_pos (by simp)]
theorem kA : removeP (sF 256) { data := #[65] } = (1, sF 256) := by
  unfold removeP
  rw [if_pos (by decide)]
theorem k256 : removeP (sF 256) (nF 256) = (6, sF 256) := by
  unfold removeP
  rw [if_neg (by rw [nF_may (by omega)]; simp), sF_none 256 (fun j hj e => by have := nF_inj e; omega), if_neg (by simp)]
/-- f.1 has come in f.2's place -/
def sG : PSt := (sF 256).push (.mv (nF 1) (nF 2))
theorem kMv : renameP (sF 256) (nF 1) (nF 2) = (0, sG) := by
  unfold renameP
  have hne : (nF 1).toList ≠ (nF 2).toList := toList_ne (fun e => by have := nF_inj e; omega)
  rw [if_neg (by rw [nF_may (by omega), nF_may (by omega)]; simp), sF_find 256 (by omega), if_neg (by simp), if_neg (by simpa using hne)]
  rfl
theorem sG_now : sG.now = withoutL (withL (sF 256).now (nF 2) 2) (nF 1) := by
  have h1 : sG.now = Dd.app (.mv (nF 1) (nF 2)) (sF 256).now := PSt.push_now _ _
  rw [h1]
  show withoutL (withL (sF 256).now (nF 2) ((findL (sF 256).now (nF 1)).getD 0)) (nF 1) = _
  rw [sF_find 256 (by omega)]
  rfl
theorem sG_len : sG.now.length < 256 := by
  rw [sG_now]
  have hs := sF_sort 256
  have h1 : (withL (sF 256).now (nF 2) 2).length ≤ 256 := by
    rw [withL_eq, insL_length]
    have := without_old (l := (sF 256).now) (n := nF 2) (by rw [sF_find 256 (by omega)]; rfl)
    rw [sF_len] at this
    omega
  have h2 : findL (withL (sF 256).now (nF 2) 2) (nF 1) = some 2 := by
    rw [findL_with_other hs _ (fun e => by have := nF_inj e; omega), sF_find 256 (by omega)]
  have h3 := without_old (l := withL (sF 256).now (nF 2) 2) (n := nF 1) (by rw [h2]; rfl)
  omega
theorem sG_none : findL sG.now nOne = none := by
  have hs := sF_sort 256
  rw [sG_now, findL_without_other (sortE_with hs _ _) (head_ne 111 _ rfl (by decide) 1), findL_with_other hs _ (head_ne 111 _ rfl (by decide) 2), sF_none 256 (fun j _ => head_ne 111 _ rfl (by decide) j)]
theorem kLast : createP sG nOne = (257, 0, sG.made nOne) := by
  unfold createP
  rw [if_neg (by decide), sG_none, if_neg (by simp), if_neg (by have := sG_len; omega)]
  have h9 := sF_last 256
  have : sG.last = 256 := by
    unfold sG PSt.push
    dsimp only
    exact h9
  rw [this]
end Go.Proofs.YtpjmjcjikaekiaaDoor
