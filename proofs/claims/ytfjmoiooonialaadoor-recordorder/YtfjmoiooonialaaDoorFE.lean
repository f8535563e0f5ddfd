/- Plain: rows are held in an order. -/
import Derived.Test.YtfjmoiooonialaaDoorED
namespace Go.Proofs.YtfjmoiooonialaaDoor
open Go.ChangeShapes Go.WideShapes Go.ChangeAt Go.RowKit
set_option linter.unusedVariables false

theorem cmpV_same {k1 n1 : Int} {t1 : List UInt8} {k2 n2 : Int} {t2 : List UInt8} (h1 : MayL k1 n1 t1) (h2 : MayL k2 n2 t2) (h : cmpV k1 n1 t1 k2 n2 t2 0 = 0) : k1 = k2 ∧ n1 = n2 ∧ t1 = t2 := by
  unfold cmpV at h
  by_cases hk : k1 = k2
  · subst hk
    rw [if_pos rfl] at h
    unfold MayL at h1 h2
    by_cases d2 : k1 = 2
    · rw [if_pos d2] at h
      have := cmpL_zero _ _ h
      unfold foldL at this
      rw [if_neg (by omega), if_neg (by omega), if_neg (by omega), if_neg (by omega)] at this
      exact ⟨rfl, by omega, this⟩
    · rw [if_neg d2] at h
      by_cases d3 : k1 = 3
      · rw [if_pos d3] at h
        exact ⟨rfl, by omega, cmpL_zero _ _ h⟩
      · rw [if_neg d3, cmpI_zero] at h
        refine ⟨rfl, h, ?_⟩
        have e1 : t1 = [] := by rcases h1 with h1 | h1 | h1; exact h1.2.2; exact h1.2; omega
        have e2 : t2 = [] := by rcases h2 with h2 | h2 | h2; exact h2.2.2; exact h2.2; omega
        rw [e1, e2]
  · rw [if_neg hk, cmpI_zero] at h
    exact absurd h hk

/-- A row, in one piece. -/
structure RowD where
  len : Nat
  K : Nat → Int
  N : Nat → Int
  T : Nat → ByteArray
def RowD.may (x : RowD) : Prop := ∀ i, i < x.len → mayB (x.K i) (x.N i) (x.T i) = true
/-- How two rows' values stand at a place, may they be or not. -/
def standV (x y : RowD) (c : Int) (d : Bool) (i : Nat) : Int := if d then -cmpV (x.K i) (x.N i) (x.T i).data.toList (y.K i) (y.N i) (y.T i).data.toList c else cmpV (x.K i) (x.N i) (x.T i).data.toList (y.K i) (y.N i) (y.T i).data.toList c
theorem standV_neg (x y : RowD) (c : Int) (d : Bool) (i : Nat) : standV y x c d i = -standV x y c d i := by
  unfold standV
  rw [cmpV_neg (x.K i)]
  cases d
  · rfl
  · rfl
theorem standV_range (x y : RowD) (c : Int) (d : Bool) (i : Nat) : -1 ≤ standV x y c d i ∧ standV x y c d i ≤ 1 := by
  have := cmpV_range (x.K i) (x.N i) (x.T i).data.toList (y.K i) (y.N i) (y.T i).data.toList c
  unfold standV
  split <;> omega
theorem standV_trans (x y z : RowD) (c : Int) (d : Bool) (i : Nat) (h1 : standV x y c d i ≤ 0) (h2 : standV y z c d i ≤ 0) : standV x z c d i ≤ 0 := by
  unfold standV at *
  cases d
  · exact cmpV_trans _ _ _ _ _ _ _ _ _ c h1 h2
  · simp only [if_true] at *
    rw [← cmpV_neg] at *
    exact cmpV_trans _ _ _ _ _ _ _ _ _ c h2 h1

theorem least {p : Nat → Prop} : ∀ (n j : Nat), j ≤ n → p j → ∃ m, p m ∧ ∀ i, i < m → ¬ p i
  | 0, j, hj, h => by
    obtain rfl : j = 0 := by omega
    exact ⟨0, h, fun i hi => by omega⟩
  | n + 1, j, hj, h => by
    by_cases hex : ∃ i, i < j ∧ p i
    · obtain ⟨i, hi, hp⟩ := hex
      exact least n i (by omega) hp
    · exact ⟨j, h, fun i hi hp => hex ⟨i, hi, hp⟩⟩

theorem rowsR_congr {f g : Nat → Int} {la lb : Nat} (h : ∀ i, i < min la lb → f i = g i) : rowsR f la lb = rowsR g la lb := by
  have hz : ∀ m, m ≤ min la lb → fz f m = fz g m := by
    intro m
    induction m with
    | zero => intro _; rfl
    | succ m ih =>
      intro hm
      unfold fz
      rw [ih (by omega), h m (by omega)]
  unfold rowsR
  rw [hz _ (Nat.le_refl _)]
/-- Where two rows part, or that they do not. -/
theorem rowsR_cases (f : Nat → Int) (la lb : Nat) : (∃ j, j < min la lb ∧ (∀ i, i < j → f i = 0) ∧ f j ≠ 0 ∧ rowsR f la lb = f j) ∨ ((∀ i, i < min la lb → f i = 0) ∧ rowsR f la lb = cmpI (la : Int) (lb : Int)) := by
  by_cases h : ∃ j, j < min la lb ∧ f j ≠ 0
  · obtain ⟨j, hj⟩ := h
    obtain ⟨m, ⟨h1, h2⟩, h3⟩ := least (p := fun j => j < min la lb ∧ f j ≠ 0) j j (Nat.le_refl _) hj
    have hz : ∀ i, i < m → f i = 0 := fun i hi => by
      by_cases e : f i = 0
      · exact e
      · exact absurd ⟨by omega, e⟩ (h3 i hi)
    exact .inl ⟨m, h1, hz, h2, rowsR_hit h1 hz h2⟩
  · have hz : ∀ i, i < min la lb → f i = 0 := fun i hi => by
      by_cases e : f i = 0
      · exact e
      · exact absurd ⟨i, hi, e⟩ h
    exact .inr ⟨hz, rowsR_end hz⟩
theorem rowsR_neg {f g : Nat → Int} (h : ∀ i, g i = -f i) (la lb : Nat) : rowsR g lb la = -rowsR f la lb := by
  rcases rowsR_cases f la lb with ⟨j, hj, hz, hne, he⟩ | ⟨hz, he⟩
  · rw [he, ← h j]
    exact rowsR_hit (by omega) (fun i hi => by rw [h, hz i hi]; rfl) (by rw [h]; omega)
  · rw [he, rowsR_end (fun i hi => by rw [h, hz i (by omega)]; rfl)]
    exact cmpI_neg _ _
theorem rowsR_range {f : Nat → Int} (h : ∀ i, -1 ≤ f i ∧ f i ≤ 1) (la lb : Nat) : -1 ≤ rowsR f la lb ∧ rowsR f la lb ≤ 1 := by
  rcases rowsR_cases f la lb with ⟨j, hj, hz, hne, he⟩ | ⟨hz, he⟩
  · rw [he]; exact h j
  · rw [he]; exact cmpI_range _ _
theorem rowsR_self {f : Nat → Int} (h : ∀ i, f i = 0) (la : Nat) : rowsR f la la = 0 := by
  rw [rowsR_end (fun i _ => h i)]
  exact cmpI_zero.2 rfl

/-- The order of rows, by any orders of columns. -/
def standR (x y : RowD) (c : Nat → Int) (d : Nat → Bool) : Int := rowsR (fun i => standV x y (c i) (d i) i) x.len y.len
theorem standR_neg (x y : RowD) (c : Nat → Int) (d : Nat → Bool) : standR y x c d = -standR x y c d := rowsR_neg (fun i => standV_neg x y (c i) (d i) i) _ _
theorem standR_range (x y : RowD) (c : Nat → Int) (d : Nat → Bool) : -1 ≤ standR x y c d ∧ standR x y c d ≤ 1 := rowsR_range (fun i => standV_range x y (c i) (d i) i) _ _
theorem standR_self (x : RowD) (c : Nat → Int) (d : Nat → Bool) : standR x x c d = 0 := rowsR_self (fun i => by have := standV_neg x x (c i) (d i) i; omega) _
theorem standV_strict (x y z : RowD) (c : Int) (d : Bool) (i : Nat) (h1 : standV x y c d i ≤ 0) (h2 : standV y z c d i ≤ 0) (h : standV x y c d i < 0 ∨ standV y z c d i < 0) : standV x z c d i < 0 := by
  refine Int.lt_of_not_ge fun hge => ?_
  have n1 := standV_neg x z c d i
  have n2 := standV_neg x y c d i
  have n3 := standV_neg y z c d i
  rcases h with h | h
  · have := standV_trans y z x c d i h2 (by omega)
    omega
  · have := standV_trans z x y c d i (by omega) h1
    omega
theorem standV_zero (x y z : RowD) (c : Int) (d : Bool) (i : Nat) (h1 : standV x y c d i = 0) (h2 : standV y z c d i = 0) : standV x z c d i = 0 := by
  have a := standV_trans x y z c d i (by omega) (by omega)
  have n1 := standV_neg x z c d i
  have n2 := standV_neg x y c d i
  have n3 := standV_neg y z c d i
  have b := standV_trans z y x c d i (by omega) (by omega)
  omega
theorem cmpI_pos {a b : Int} (h : b < a) : cmpI a b = 1 := by unfold cmpI; rw [if_neg (by omega), if_pos h]
theorem cmpI_lt {a b : Int} (h : a < b) : cmpI a b = -1 := by unfold cmpI; rw [if_pos h]
theorem standR_trans (x y z : RowD) (c : Nat → Int) (d : Nat → Bool) (h1 : standR x y c d ≤ 0) (h2 : standR y z c d ≤ 0) : standR x z c d ≤ 0 ∧ (standR x y c d < 0 → standR x z c d < 0) := by
  by_cases hex : ∃ j, j < min x.len (min y.len z.len) ∧ (standV x y (c j) (d j) j ≠ 0 ∨ standV y z (c j) (d j) j ≠ 0)
  · obtain ⟨j0, hj0⟩ := hex
    obtain ⟨j, ⟨hj, hne⟩, hbef⟩ := least (p := fun j => j < min x.len (min y.len z.len) ∧ (standV x y (c j) (d j) j ≠ 0 ∨ standV y z (c j) (d j) j ≠ 0)) j0 j0 (Nat.le_refl _) hj0
    have zab : ∀ i, i < j → standV x y (c i) (d i) i = 0 := fun i hi => by
      by_cases e : standV x y (c i) (d i) i = 0
      · exact e
      · exact absurd ⟨by omega, .inl e⟩ (hbef i hi)
    have zbc : ∀ i, i < j → standV y z (c i) (d i) i = 0 := fun i hi => by
      by_cases e : standV y z (c i) (d i) i = 0
      · exact e
      · exact absurd ⟨by omega, .inr e⟩ (hbef i hi)
    have zac : ∀ i, i < j → standV x z (c i) (d i) i = 0 := fun i hi => standV_zero x y z _ _ i (zab i hi) (zbc i hi)
    have lab : standV x y (c j) (d j) j ≤ 0 := by
      by_cases e : standV x y (c j) (d j) j = 0
      · omega
      · have := rowsR_hit (f := fun i => standV x y (c i) (d i) i) (la := x.len) (lb := y.len) (by omega) zab e
        unfold standR at h1; omega
    have lbc : standV y z (c j) (d j) j ≤ 0 := by
      by_cases e : standV y z (c j) (d j) j = 0
      · omega
      · have := rowsR_hit (f := fun i => standV y z (c i) (d i) i) (la := y.len) (lb := z.len) (by omega) zbc e
        unfold standR at h2; omega
    have lac := standV_strict x y z (c j) (d j) j lab lbc (by rcases hne with h | h; exact .inl (by omega); exact .inr (by omega))
    have := rowsR_hit (f := fun i => standV x z (c i) (d i) i) (la := x.len) (lb := z.len) (by omega) zac (by omega)
    unfold standR at *
    omega
  · have zab : ∀ i, i < min x.len (min y.len z.len) → standV x y (c i) (d i) i = 0 := fun i hi => by
      by_cases e : standV x y (c i) (d i) i = 0
      · exact e
      · exact absurd ⟨i, hi, .inl e⟩ hex
    have zbc : ∀ i, i < min x.len (min y.len z.len) → standV y z (c i) (d i) i = 0 := fun i hi => by
      by_cases e : standV y z (c i) (d i) i = 0
      · exact e
      · exact absurd ⟨i, hi, .inr e⟩ hex
    have hzc : ¬ z.len < min x.len y.len := fun hlt => by
      have := rowsR_end (f := fun i => standV y z (c i) (d i) i) (la := y.len) (lb := z.len) (fun i hi => zbc i (by omega))
      rw [cmpI_pos (by omega)] at this
      unfold standR at h2; omega
    have hab := rowsR_end (f := fun i => standV x y (c i) (d i) i) (la := x.len) (lb := y.len) (fun i hi => zab i (by omega))
    have hle : x.len ≤ y.len := by
      refine Nat.le_of_not_lt fun hlt => ?_
      rw [cmpI_pos (by omega)] at hab
      unfold standR at h1; omega
    have hac := rowsR_end (f := fun i => standV x z (c i) (d i) i) (la := x.len) (lb := z.len) (fun i hi => standV_zero x y z _ _ i (zab i (by omega)) (zbc i (by omega)))
    have r1 : standR x z c d ≤ 0 := by
      unfold standR
      rw [hac]
      rcases Nat.lt_or_ge x.len z.len with h | h
      · rw [cmpI_lt (by omega)]; omega
      · rw [cmpI_zero.2 (by omega)]; omega
    refine ⟨r1, fun hs => ?_⟩
    have hxy : x.len < y.len := by
      refine Nat.lt_of_not_le fun h => ?_
      rw [cmpI_zero.2 (by omega)] at hab
      unfold standR at hs; omega
    have hxz : x.len < z.len := by
      refine Nat.lt_of_not_le fun h => ?_
      have := rowsR_end (f := fun i => standV y z (c i) (d i) i) (la := y.len) (lb := z.len) (fun i hi => zbc i (by omega))
      rw [cmpI_pos (by omega)] at this
      unfold standR at h2; omega
    unfold standR
    rw [hac, cmpI_lt (by omega)]
    omega
/-- What the program reckons, of rows that may be. -/
theorem ordF_stand {x y : RowD} (hx : x.may) (hy : y.may) (lc : Nat) (C : Nat → Int) (D : Nat → Bool) : rowsR (ordF x.K x.N x.T y.K y.N y.T lc C D) x.len y.len = standR x y (colC lc C) (colD lc D) := by
  refine rowsR_congr fun i hi => ?_
  have e : cmpA (x.K i) (x.N i) (x.T i) (y.K i) (y.N i) (y.T i) (colC lc C i) = cmpV (x.K i) (x.N i) (x.T i).data.toList (y.K i) (y.N i) (y.T i).data.toList (colC lc C i) := by
    unfold cmpA
    rw [if_pos ⟨hx i (by omega), hy i (by omega)⟩]
  unfold ordF standV
  cases colD lc D i
  · exact e
  · show -cmpA _ _ _ _ _ _ _ = -cmpV _ _ _ _ _ _ _
    rw [e]
open Classical in
theorem same_stand {x y : RowD} (hx : x.may) (hy : y.may) (C : Nat → Int) (D : Nat → Bool) : sameR x.len y.len x.K x.N x.T y.K y.N y.T = decide (standR x y (colC 0 C) (colD 0 D) = 0) := by
  unfold sameR
  refine decide_eq_decide.2 ⟨fun ⟨h1, h2⟩ => ?_, fun h => ?_⟩
  · unfold standR
    rw [rowsR_end (fun i hi => ?_), h1]
    · exact cmpI_zero.2 rfl
    · obtain ⟨e0, e1, e2⟩ := h2 i (by omega)
      show standV x y 0 false i = 0
      unfold standV
      rw [e0, e1, e2]
      exact cmpV_self _ _ _ _
  · unfold standR at h
    rcases rowsR_cases (fun i => standV x y (colC 0 C i) (colD 0 D i) i) x.len y.len with ⟨j, hj, hz, hne, he⟩ | ⟨hz, he⟩
    · exact absurd (he.symm.trans h) hne
    · rw [he, cmpI_zero] at h
      refine ⟨by omega, fun i hi => ?_⟩
      obtain ⟨e0, e1, e2⟩ := cmpV_same (of_decide_eq_true (hx i hi)) (of_decide_eq_true (hy i (by omega))) (show cmpV _ _ _ _ _ _ 0 = 0 from hz i (by omega))
      exact ⟨e0, e1, ByteArray.ext (Array.toList_inj.1 e2)⟩
end Go.Proofs.YtfjmoiooonialaaDoor
