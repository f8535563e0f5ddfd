/- CalcBack, with what each operator makes of two integers. -/
import Derived.Test.YtoekdeoekcmpgabGreatDoorKCD
namespace Go.Proofs.YtoekdeoekcmpgabGreatDoor
open Go.ChangeShapes Go.WideShapes Go.ChangeAt Go.RowKit
set_option linter.unusedVariables false

/-- What two answers of two integers. -/
abbrev TwoIs (op x y k n : Int) : Prop := Hid (∀ V, Env V → Calls Tryz.prog 7 #[.int .i64 op, .agg #[.int .i64 1, .int .i64 x, .string ⟨#[]⟩], .agg #[.int .i64 1, .int .i64 y, .string ⟨#[]⟩], .int .i64 0] V fun e w' => e = .returned (.agg #[.int .i64 k, .int .i64 n, .string ⟨#[]⟩]) ∧ Below V.heap.size V w')

theorem two_some (op x y m : Int) (o : Option Int) (ho : o = some m) (h : ∀ V, Env V → Calls Tryz.prog 13 #[.int .i64 op, val 1 x ⟨#[]⟩, val 1 y ⟨#[]⟩, .int .i64 0] V fun e w' => e = .returned (.tuple #[optV o, .int .i64 0]) ∧ Below V.heap.size V w') : TwoIs op x y 1 m := by
  subst ho
  exact fun V hV => two_walk op 0 1 x ⟨#[]⟩ 1 y ⟨#[]⟩ 1 m ⟨#[]⟩ h V hV
theorem two_none (op x y : Int) (o : Option Int) (ho : o = none) (h : ∀ V, Env V → Calls Tryz.prog 13 #[.int .i64 op, val 1 x ⟨#[]⟩, val 1 y ⟨#[]⟩, .int .i64 0] V fun e w' => e = .returned (.tuple #[optV o, .int .i64 0]) ∧ Below V.heap.size V w') : TwoIs op x y 0 0 := by
  subst ho
  exact fun V hV => two_walk op 0 1 x ⟨#[]⟩ 1 y ⟨#[]⟩ 0 0 ⟨#[]⟩ h V hV

theorem rem_between (x y : Int) : (0 ≤ x → 0 ≤ x.tmod y ∧ x.tmod y ≤ x) ∧ (x < 0 → x ≤ x.tmod y ∧ x.tmod y ≤ 0) := by
  have hn : (x.tmod y).natAbs = x.natAbs % y.natAbs := Int.natAbs_tmod x y
  have hl := Nat.mod_le x.natAbs y.natAbs
  constructor
  · intro h
    have := Int.tmod_nonneg y h
    omega
  · intro h
    have h1 := Int.tmod_nonneg y (show 0 ≤ -x by omega)
    rw [Int.neg_tmod] at h1
    omega

theorem back_walk (x y : Int) (h0 : -9223372036854775808 ≤ x) (h1 : x ≤ 9223372036854775807) (g0 : -9223372036854775808 ≤ y) (g1 : y ≤ 9223372036854775807) (w : World) (hE : Env w) :
    Calls Tryz.prog 4 #[.int .i64 x, .int .i64 y] w fun e w' => e = .returned (.bool true) ∧ Below w.heap.size w w' := by
  have hx : inR x := ⟨h0, h1⟩
  have hy : inR y := ⟨g0, g1⟩
  have hl := itoa_length x h0 h1
  have hsz : (⟨(Lib.itoa x).toArray⟩ : ByteArray).size ≤ 400 := by
    show (Lib.itoa x).toArray.size ≤ 400
    rw [List.size_toArray]; omega
  have CT : Hid (∀ V, Env V → _) := fun V hV => cast_text x h0 h1 _ rfl V hV
  have CI : Hid (∀ V, Env V → _) := fun V hV => cast_int x h0 h1 _ rfl V hV
  have P1 : Hid (∀ V, Env V → _) := fun V hV => apply_num ⟨(Lib.itoa x).toArray⟩ hsz x (by
    unfold textNum
    show intL (Lib.trimS (Lib.itoa x) blankL) = some x
    rw [trimS_itoa, intL_itoa x h0 h1]) V hV
  have P2 : Hid (∀ V, Env V → Calls Tryz.prog 12 #[.int .i64 2, .agg #[.int .i64 1, .int .i64 x, .string ⟨#[]⟩]] V fun e w' => e = .returned (.agg #[.int .i64 2, .int .i64 0, .string ⟨(Lib.itoa x).toArray⟩]) ∧ Below V.heap.size V w') := fun V hV => by
    have h := apply_show x h0 h1 V hV
    unfold textV at h
    rw [if_pos hsz] at h
    exact h
  -- the sum
  obtain ⟨s1, s2, TA, hS⟩ : ∃ s1 s2, TwoIs 7 x y s1 s2 ∧ (s1 = 0 ∨ (s1 = 1 ∧ Hid (∀ V, Env V → Calls Tryz.prog 7 #[.int .i64 8, .agg #[.int .i64 s1, .int .i64 s2, .string ⟨#[]⟩], .agg #[.int .i64 1, .int .i64 y, .string ⟨#[]⟩], .int .i64 0] V fun e w' => e = .returned (.agg #[.int .i64 1, .int .i64 x, .string ⟨#[]⟩]) ∧ Below V.heap.size V w'))) := by
    by_cases hr : inR (x + y)
    · refine ⟨1, x + y, two_some 7 x y _ (sumO x y) (if_pos hr) (fun V hV => binary_add x y 0 hx hy V hV), .inr ⟨rfl, ?_⟩⟩
      refine two_some 8 (x + y) y x (difO (x + y) y) ?_ (fun V hV => binary_sub (x + y) y 0 hr hy V hV)
      unfold difO
      rw [show x + y - y = x by omega, if_pos hx]
    · exact ⟨0, 0, two_none 7 x y (sumO x y) (if_neg hr) (fun V hV => binary_add x y 0 hx hy V hV), .inl rfl⟩
  by_cases y0 : y = 0
  · have TD := two_none 10 x y (quoO x y) (if_pos (.inl y0)) (fun V hV => binary_div x y 0 hx hy V hV)
    have TR := two_none 11 x y (remO x y) (if_pos y0) (fun V hV => binary_rem x y 0 hx hy V hV)
    exact back_c x y s1 s2 0 0 0 0 _ TA hS TD TR (.inl ⟨rfl, rfl, rfl, rfl, y0⟩) CT CI P1 P2 w hE
  by_cases hm : x = -9223372036854775808 ∧ y = -1
  · have TD := two_none 10 x y (quoO x y) (if_pos (.inr hm)) (fun V hV => binary_div x y 0 hx hy V hV)
    have TR := two_some 11 x y _ (remO x y) (if_neg y0) (fun V hV => binary_rem x y 0 hx hy V hV)
    exact back_c x y s1 s2 0 0 1 _ _ TA hS TD TR (.inr (.inr ⟨rfl, rfl, rfl, hm.1, hm.2⟩)) CT CI P1 P2 w hE
  · have TD := two_some 10 x y _ (quoO x y) (if_neg (by omega)) (fun V hV => binary_div x y 0 hx hy V hV)
    have TR := two_some 11 x y _ (remO x y) (if_neg y0) (fun V hV => binary_rem x y 0 hx hy V hV)
    obtain ⟨b1, b2⟩ := rem_between x y
    have hd := Int.mul_tdiv_add_tmod x y
    have hc : x.tdiv y * y = x - x.tmod y := by rw [Int.mul_comm]; omega
    have hq : inR (x.tdiv y) := by
      have hn : (x.tdiv y).natAbs = x.natAbs / y.natAbs := Int.natAbs_tdiv x y
      unfold inR
      by_cases y1 : y = -1
      · subst y1; rw [Int.tdiv_neg, Int.tdiv_one]; omega
      by_cases y2 : y = 1
      · subst y2; rw [Int.tdiv_one]; exact hx
      · have h2 : 2 ≤ y.natAbs := by omega
        have h3 : x.natAbs / y.natAbs ≤ x.natAbs / 2 := Nat.div_le_div_left h2 (by omega)
        omega
    have hr : inR (x.tmod y) := by unfold inR; omega
    have hmr : inR (x.tdiv y * y) := by unfold inR; omega
    refine back_c x y s1 s2 1 _ 1 _ _ TA hS TD TR (.inr (.inl ⟨rfl, rfl, y0, hm, x.tdiv y * y, ?_, ?_⟩)) CT CI P1 P2 w hE
    · exact two_some 9 (x.tdiv y) y _ (mulO (x.tdiv y) y) (if_pos hmr) (fun V hV => binary_mul (x.tdiv y) y 0 hq hy V hV)
    · refine two_some 7 (x.tdiv y * y) (x.tmod y) x (sumO (x.tdiv y * y) (x.tmod y)) ?_ (fun V hV => binary_add (x.tdiv y * y) (x.tmod y) 0 hmr hr V hV)
      unfold sumO
      rw [hc, show x - x.tmod y + x.tmod y = x by omega, if_pos hx]
end Go.Proofs.YtoekdeoekcmpgabGreatDoor
