/- Package calc: Binary on integers; Cast; the law's two. -/
import Derived.Test.YtoekdeoekcmpgabGreatDoorKAA
namespace Go.Proofs.YtoekdeoekcmpgabGreatDoor
open Go.ChangeShapes Go.WideShapes Go.ChangeAt Go.RowKit
set_option linter.unusedVariables false

theorem binary_sub (x y c : Int) (hx : inR x) (hy : inR y) (w : World) (hE : Env w) :
    Calls Tryz.prog 13 #[.int .i64 8, val 1 x ⟨#[]⟩, val 1 y ⟨#[]⟩, .int .i64 c] w fun e w' => e = .returned (.tuple #[optV (difO x y), .int .i64 0]) ∧ Below w.heap.size w w' := by
  have := binary_ar 8 c difO 28 1 x ⟨#[]⟩ 1 y ⟨#[]⟩ rfl rfl (fun V => ofTwo_sub c V) (fun x' y' hx' hy' p V hc => by
    rw [num_of_int] at hx' hy'
    obtain rfl := Option.some.inj hx'
    obtain rfl := Option.some.inj hy'
    exact clo1_dif _ _ _ (fun V => dif_walk _ _ hx hy V) p V hc) w hE
  rw [num_of_int, num_of_int] at this
  exact this
theorem binary_mul (x y c : Int) (hx : inR x) (hy : inR y) (w : World) (hE : Env w) :
    Calls Tryz.prog 13 #[.int .i64 9, val 1 x ⟨#[]⟩, val 1 y ⟨#[]⟩, .int .i64 c] w fun e w' => e = .returned (.tuple #[optV (mulO x y), .int .i64 0]) ∧ Below w.heap.size w w' := by
  have := binary_ar 9 c mulO 29 1 x ⟨#[]⟩ 1 y ⟨#[]⟩ rfl rfl (fun V => ofTwo_mul c V) (fun x' y' hx' hy' p V hc => by
    rw [num_of_int] at hx' hy'
    obtain rfl := Option.some.inj hx'
    obtain rfl := Option.some.inj hy'
    exact clo1_mul _ _ _ (fun V => mul_walk _ _ hx hy V) p V hc) w hE
  rw [num_of_int, num_of_int] at this
  exact this
theorem binary_div (x y c : Int) (hx : inR x) (hy : inR y) (w : World) (hE : Env w) :
    Calls Tryz.prog 13 #[.int .i64 10, val 1 x ⟨#[]⟩, val 1 y ⟨#[]⟩, .int .i64 c] w fun e w' => e = .returned (.tuple #[optV (quoO x y), .int .i64 0]) ∧ Below w.heap.size w w' := by
  have := binary_ar 10 c quoO 30 1 x ⟨#[]⟩ 1 y ⟨#[]⟩ rfl rfl (fun V => ofTwo_div c V) (fun x' y' hx' hy' p V hc => by
    rw [num_of_int] at hx' hy'
    obtain rfl := Option.some.inj hx'
    obtain rfl := Option.some.inj hy'
    exact clo1_quo _ _ _ (fun V => quo_walk _ _ hx hy V) p V hc) w hE
  rw [num_of_int, num_of_int] at this
  exact this
theorem binary_rem (x y c : Int) (hx : inR x) (hy : inR y) (w : World) (hE : Env w) :
    Calls Tryz.prog 13 #[.int .i64 11, val 1 x ⟨#[]⟩, val 1 y ⟨#[]⟩, .int .i64 c] w fun e w' => e = .returned (.tuple #[optV (remO x y), .int .i64 0]) ∧ Below w.heap.size w w' := by
  have := binary_ar 11 c remO 31 1 x ⟨#[]⟩ 1 y ⟨#[]⟩ rfl rfl (fun V => ofTwo_rem c V) (fun x' y' hx' hy' p V hc => by
    rw [num_of_int] at hx' hy'
    obtain rfl := Option.some.inj hx'
    obtain rfl := Option.some.inj hy'
    exact clo1_rem _ _ _ (fun V => rem_walk _ _ hx hy V) p V hc) w hE
  rw [num_of_int, num_of_int] at this
  exact this

set_option maxHeartbeats 1000000 in
set_option maxRecDepth 10000 in
theorem two_walk (op c : Int) (k n : Int) (t : ByteArray) (k2 n2 : Int) (t2 : ByteArray) (r1 r2 : Int) (r3 : ByteArray) (HB : Hid (∀ V, Env V → Calls Tryz.prog 13 #[.int .i64 op, .agg #[.int .i64 k, .int .i64 n, .string t], .agg #[.int .i64 k2, .int .i64 n2, .string t2], .int .i64 c] V fun e w' => e = .returned (.tuple #[.agg #[.int .i64 r1, .int .i64 r2, .string r3], .int .i64 0]) ∧ Below V.heap.size V w')) (w : World) (hE : Env w) :
    Calls Tryz.prog 7 #[.int .i64 op, .agg #[.int .i64 k, .int .i64 n, .string t], .agg #[.int .i64 k2, .int .i64 n2, .string t2], .int .i64 c] w fun e w' => e = .returned (.agg #[.int .i64 r1, .int .i64 r2, .string r3]) ∧ Below w.heap.size w w' := by
  have HW : Hid (∀ V, _ → _) := pr2_later w k n t k2 n2 t2
  have HE0 : Hid (Env (((w.alloc (vcells k n t)).alloc (vcells k2 n2 t2)).alloc nilcells)) := hE.below (pr2_later w k n t k2 n2 t2 _ (Below.refl _ _)).2.2.2.2
  clear hE
  go_enter Tryz.func7, Tryz.ntmps7
  go_wp2_with (first
    | (go_at_call 13; with_reducible refine Calls.mono (HB.out _ HE0.out) ?_; rintro e w1 ⟨rfl, hb1⟩; obtain ⟨⟨p0, p1, p2⟩, ⟨q0, q1, q2⟩, ⟨d0, d1, d2, f0, f1, f2⟩, HK1, HB1⟩ := HW.out _ (below_trans hb1 (new_below w1 (vcells r1 r2 r3) rfl)); clear hb1))
  exact ret_valg Tryz.results7 rfl HK1.out ⟨rfl, below_set3g HB1.out (Nat.le_succ_of_le (Nat.le_succ _)) _ _ _⟩

set_option maxHeartbeats 1000000 in
set_option maxRecDepth 10000 in
theorem cast_text (n : Int) (h0 : -9223372036854775808 ≤ n) (h1 : n ≤ 9223372036854775807) (T : ByteArray) (hT : T = ⟨(Lib.itoa n).toArray⟩) (w : World) (hE : Env w) : Calls Tryz.prog 11 #[.agg #[.int .i64 1, .int .i64 n, .string ⟨#[]⟩], .string strText] w fun e w' => e = .returned (.tuple #[.agg #[.int .i64 2, .int .i64 0, .string T], .int .i64 0]) ∧ Below w.heap.size w w' := by
  have hsz : T.size ≤ 400 := by rw [hT, ba_size]; have := itoa_length n h0 h1; omega
  have HS : Hid (∀ V, Env V → Calls Tryz.prog 20 #[.agg #[.int .i64 1, .int .i64 n, .string ⟨#[]⟩]] V fun e w' => e = .returned (.agg #[.int .i64 2, .int .i64 0, .string T]) ∧ Below V.heap.size V w') := fun V hV => by
    have := show_int n h0 h1 V hV
    rw [← hT] at this
    unfold textV at this
    rw [if_pos hsz] at this
    exact this
  have HM : Hid (∀ V, Calls Tryz.prog 15 #[.agg #[.int .i64 1, .int .i64 n, .string ⟨#[]⟩]] V fun e w' => e = .returned (.bool true) ∧ Below V.heap.size V w') := fun V => may_walk 1 n ⟨#[]⟩ V
  have HW : Hid (∀ V, _ → _) := pr_later w 1 n ⟨#[]⟩
  have HE : Hid (∀ V, Below w.heap.size w V → Env V) := fun V h => hE.below h
  clear hE hT hsz
  go_enter Tryz.func11, Tryz.ntmps11
  go_wp2_with (first
    | (go_at_call 18; with_reducible refine Calls.mono (aff_text _) ?_; rintro e w1 ⟨rfl, hb1⟩; have HX1 := hide hb1; obtain ⟨⟨p0, p1, p2⟩, q0, q1, q2, ⟨d0, d1, d2, f0, f1, f2⟩, HK1, HB1⟩ := HW.out _ hb1; clear hb1)
    | (go_at_call 15; with_reducible refine Calls.mono (HM.out _) ?_; rintro e w2 ⟨rfl, hb2⟩; have HX2 := hide (below_trans HX1.out hb2); obtain ⟨⟨p0, p1, p2⟩, q0, q1, q2, ⟨d0, d1, d2, f0, f1, f2⟩, HK2, HB2⟩ := HW.out _ HX2.out; clear hb2)
    | (go_at_call 20; with_reducible refine Calls.mono (HS.out _ (HE.out _ HB2.out)) ?_; rintro e w3 ⟨rfl, hb3⟩; have HX3 := hide (below_trans HX2.out hb3); obtain ⟨⟨p0, p1, p2⟩, q0, q1, q2, ⟨d0, d1, d2, f0, f1, f2⟩, HK3, HB3⟩ := HW.out _ HX3.out; clear hb3))
  exact ret_val2g Tryz.results11 rfl rfl HK3.out ⟨rfl, below_set3g HB3.out (Nat.le_succ _) _ _ _⟩

set_option maxHeartbeats 1000000 in
set_option maxRecDepth 10000 in
theorem cast_int (n : Int) (h0 : -9223372036854775808 ≤ n) (h1 : n ≤ 9223372036854775807) (T : ByteArray) (hT : T = ⟨(Lib.itoa n).toArray⟩) (w : World) (hE : Env w) : Calls Tryz.prog 11 #[.agg #[.int .i64 2, .int .i64 0, .string T], .string strInt] w fun e w' => e = .returned (.tuple #[.agg #[.int .i64 1, .int .i64 n, .string ⟨#[]⟩], .int .i64 0]) ∧ Below w.heap.size w w' := by
  have hsz : T.size ≤ 400 := by rw [hT, ba_size]; have := itoa_length n h0 h1; omega
  have hTl : T.data.toList = Lib.itoa n := by rw [hT]
  have HS : Hid (∀ V, Env V → Calls Tryz.prog 19 #[.agg #[.int .i64 2, .int .i64 0, .string T]] V fun e w' => e = .returned (.agg #[.int .i64 1, .int .i64 n, .string ⟨#[]⟩]) ∧ Below V.heap.size V w') := fun V hV => by
    have := num_text 2 (.inl rfl) T hsz V hV
    rw [hTl, numT_itoa n h0 h1] at this
    exact this
  have HM : Hid (∀ V, Calls Tryz.prog 15 #[.agg #[.int .i64 2, .int .i64 0, .string T]] V fun e w' => e = .returned (.bool true) ∧ Below V.heap.size V w') := fun V => by have := may_walk 2 0 T V; rw [may2, decide_eq_true hsz, decide_eq_true rfl] at this; exact this
  have HW : Hid (∀ V, _ → _) := pr_later w 2 0 T
  have HE : Hid (∀ V, Below w.heap.size w V → Env V) := fun V h => hE.below h
  clear hE hT hsz hTl
  go_enter Tryz.func11, Tryz.ntmps11
  go_wp2_with (first
    | (go_at_call 18; with_reducible refine Calls.mono (aff_int _) ?_; rintro e w1 ⟨rfl, hb1⟩; have HX1 := hide hb1; obtain ⟨⟨p0, p1, p2⟩, q0, q1, q2, ⟨d0, d1, d2, f0, f1, f2⟩, HK1, HB1⟩ := HW.out _ hb1; clear hb1)
    | (go_at_call 15; with_reducible refine Calls.mono (HM.out _) ?_; rintro e w2 ⟨rfl, hb2⟩; have HX2 := hide (below_trans HX1.out hb2); obtain ⟨⟨p0, p1, p2⟩, q0, q1, q2, ⟨d0, d1, d2, f0, f1, f2⟩, HK2, HB2⟩ := HW.out _ HX2.out; clear hb2)
    | (go_at_call 19; with_reducible refine Calls.mono (HS.out _ (HE.out _ HB2.out)) ?_; rintro e w3 ⟨rfl, hb3⟩; have HX3 := hide (below_trans HX2.out hb3); obtain ⟨⟨p0, p1, p2⟩, q0, q1, q2, ⟨d0, d1, d2, f0, f1, f2⟩, HK3, HB3⟩ := HW.out _ HX3.out; clear hb3))
  exact ret_val2g Tryz.results11 rfl rfl HK3.out ⟨rfl, below_set3g HB3.out (Nat.le_succ _) _ _ _⟩
end Go.Proofs.YtoekdeoekcmpgabGreatDoor
