/- Encode of a row of five values. -/
import Derived.Test.YtfjmoiooonialaaSR
namespace Go.Proofs.Ytfjmoiooonialaa
open Go.ChangeShapes Go.WideShapes Go.ChangeAt Go.RowKit
set_option linter.unusedVariables false

theorem put_of (n : Nat) (s : ByteArray) (hn : n < 1000) (h : (⟨(putL n).toArray⟩ : ByteArray) = s) (w : World) : Calls Try.prog 9 #[.int .u64 (n : Int)] w fun e w' => e = .returned (.string s) ∧ Below w.heap.size w w' := by
  subst h
  exact put_walk n (by omega) w

set_option maxHeartbeats 8000000 in
set_option maxRecDepth 10000 in
theorem encode_five (g : Nat) (w : World) (h : Five w g) : Calls Try.prog 13 #[.slice (some ⟨g, 0, none⟩) 5 5] w fun e w' => e = .returned (.tuple #[.string ⟨#[5, 0, 10, 1, 2, 17, 254, 1, 44, 97, 98]⟩, .int .i64 0]) ∧ Below w.heap.size w w' := by
  have HF := hide h
  have HP5 := hide (put_of 5 ⟨#[5]⟩ (by decide) (by decide))
  have HP0 := hide (put_of 0 ⟨#[0]⟩ (by decide) (by decide))
  have HP10 := hide (put_of 10 ⟨#[10]⟩ (by decide) (by decide))
  have HP1 := hide (put_of 1 ⟨#[1]⟩ (by decide) (by decide))
  have HP2 := hide (put_of 2 ⟨#[2]⟩ (by decide) (by decide))
  have HP17 := hide (put_of 17 ⟨#[17]⟩ (by decide) (by decide))
  have hcv : ∀ V, (convert 9 42 (.string ⟨#[5]⟩)).run Try.prog V = .ok (.slice (some ⟨V.heap.size, 0, none⟩) 1 (grownCap V 1 0 5)) (Lib.bytesWorld V 5 ⟨#[5]⟩) := fun V => Lib.run_convert_string_bytes V 9 42 5 ⟨#[5]⟩ Try.underlying9 Try.underlying42 Try.underlying5
  clear h
  go_enter Try.func13, Try.ntmps13
  go_wp2_with (first
    | (go_at_call 22; with_reducible refine Calls.mono (check_five g _ HF.out) ?_; rintro e w1 ⟨rfl, hb1⟩; have HX1 := hide hb1; clear hb1)
    | (go_at_call 9; with_reducible refine Calls.mono (HP5.out _) ?_; rintro e w2 ⟨rfl, hb2⟩; have HX2 := hide (below_trans HX1.out hb2); clear hb2))
  go_name_world u0 hu0
  obtain ⟨ho0, hb0⟩ := made_ownE w2 ⟨#[5]⟩ (by decide) (by decide)
  rw [hu0] at ho0 hb0
  obtain ⟨v0, hv0⟩ : ∃ v, Value.slice (some ⟨w2.heap.size, 0, none⟩) 1 (grownCap w2 1 0 5) = v := ⟨_, rfl⟩
  rw [show Value.slice (some ⟨w2.heap.size, 0, none⟩) (ByteArray.size ⟨#[5]⟩) (grownCap w2 (ByteArray.size ⟨#[5]⟩) 0 5) = v0 from hv0] at ho0
  rw [hv0]
  obtain ⟨B, hB⟩ : ∃ B, w2.heap.size = B := ⟨_, rfl⟩
  rw [hB] at ho0
  have HO0 : Hid (OwnE u0 B v0 [5]) := ho0
  have HU0 : Hid (Below w.heap.size w u0) := below_trans HX2.out hb0
  have HBB : Hid (B ≤ u0.heap.size ∧ Below B w2 u0 ∧ w.heap.size ≤ B) := ⟨hB ▸ hb0.size, hB ▸ hb0, hB ▸ HX2.out.size⟩
  clear ho0 hb0 hu0 hv0 hB hcv
  obtain ⟨c0, c1, c2, c3, c4, c5, c6, c7, c8, c9, c10, c11, c12, c13, c14⟩ := HF.out.later HU0.out
  have HZ0 := hide HBB.out.1
  refine wp_loop_rounds 6 ?_
  rw [rounds_succ]
  go_wp2_with (first
    | (go_at_call 23; with_reducible refine Calls.mono (type_null _) ?_; rintro e x0 ⟨rfl, hx⟩; have XA0 := hide hx; clear hx)
    | (go_at_call 9; with_reducible refine Calls.mono (HP0.out _) ?_; rintro e y0 ⟨rfl, hy⟩; have XO0 := hide (((HO0.out.later (B := 0) (new_below u0 (.cells #[.int .i64 0, .int .i64 0, .string ⟨#[]⟩] 46) rfl)).later (B := 0) XA0.out).later (B := 0) hy); have XU0 := hide (below_trans HU0.out (below_trans (new_below u0 (.cells #[.int .i64 0, .int .i64 0, .string ⟨#[]⟩] 46) rfl) (below_trans XA0.out hy))); have XZ0 := hide (Nat.le_trans HZ0.out (Nat.le_trans (new_below u0 (.cells #[.int .i64 0, .int .i64 0, .string ⟨#[]⟩] 46) rfl).size (Nat.le_trans XA0.out.size hy.size))); clear hy)
    | (at_builtin; refine wp_text (by rfl) _ _ (by rfl) B _ [5] ⟨#[0]⟩ (by rfl) XO0.out (by rfl) (by decide) XZ0.out ?_; intro v1 u1 ho hb hk; have HO1 := hide (show OwnE u1 B v1 [5, 0] from ho); have HU1 := hide (XU0.out.trans (hb.mono HBB.out.2.2)); have HZ1 := hide (Nat.le_trans XZ0.out hb.size); obtain ⟨c0, c1, c2, c3, c4, c5, c6, c7, c8, c9, c10, c11, c12, c13, c14⟩ := HF.out.later HU1.out; clear ho hb hk))
  rw [rounds_succ]
  go_wp2_with (first
    | (go_at_call 23; with_reducible refine Calls.mono (type_one _) ?_; rintro e x1 ⟨rfl, hx⟩; have XA1 := hide hx; clear hx)
    | (go_at_call 9; with_reducible refine Calls.mono (HP10.out _) ?_; rintro e y1 ⟨rfl, hy⟩; have XO1 := hide (((HO1.out.later (B := 0) (new_below u1 (.cells #[.int .i64 1, .int .i64 1, .string ⟨#[]⟩] 46) rfl)).later (B := 0) XA1.out).later (B := 0) hy); have XU1 := hide (below_trans HU1.out (below_trans (new_below u1 (.cells #[.int .i64 1, .int .i64 1, .string ⟨#[]⟩] 46) rfl) (below_trans XA1.out hy))); have XZ1 := hide (Nat.le_trans HZ1.out (Nat.le_trans (new_below u1 (.cells #[.int .i64 1, .int .i64 1, .string ⟨#[]⟩] 46) rfl).size (Nat.le_trans XA1.out.size hy.size))); clear hy)
    | (at_builtin; refine wp_text (by rfl) _ _ (by rfl) B _ [5, 0] ⟨#[10]⟩ (by rfl) XO1.out (by rfl) (by decide) XZ1.out ?_; intro v2 u2 ho hb hk; have HO2 := hide (show OwnE u2 B v2 [5, 0, 10] from ho); have HU2 := hide (XU1.out.trans (hb.mono HBB.out.2.2)); have HZ2 := hide (Nat.le_trans XZ1.out hb.size); obtain ⟨c0, c1, c2, c3, c4, c5, c6, c7, c8, c9, c10, c11, c12, c13, c14⟩ := HF.out.later HU2.out; clear ho hb hk))
  rw [rounds_succ]
  go_wp2_with (first
    | (go_at_call 23; with_reducible refine Calls.mono (type_a _) ?_; rintro e x2 ⟨rfl, hx⟩; have XA2 := hide hx; clear hx)
    | (go_at_call 9; with_reducible refine Calls.mono (HP1.out _) ?_; rintro e y2 ⟨rfl, hy⟩; have XO2 := hide (((HO2.out.later (B := 0) (new_below u2 (.cells #[.int .i64 1, .int .i64 (-2), .string ⟨#[]⟩] 46) rfl)).later (B := 0) XA2.out).later (B := 0) hy); have XU2 := hide (below_trans HU2.out (below_trans (new_below u2 (.cells #[.int .i64 1, .int .i64 (-2), .string ⟨#[]⟩] 46) rfl) (below_trans XA2.out hy))); have XZ2 := hide (Nat.le_trans HZ2.out (Nat.le_trans (new_below u2 (.cells #[.int .i64 1, .int .i64 (-2), .string ⟨#[]⟩] 46) rfl).size (Nat.le_trans XA2.out.size hy.size))); clear hy)
    | (at_builtin; refine wp_text (by rfl) _ _ (by rfl) B _ [5, 0, 10] ⟨#[1]⟩ (by rfl) XO2.out (by rfl) (by decide) XZ2.out ?_; intro v3 u3 ho hb hk; have HO3 := hide (show OwnE u3 B v3 [5, 0, 10, 1] from ho); have HU3 := hide (XU2.out.trans (hb.mono HBB.out.2.2)); have HZ3 := hide (Nat.le_trans XZ2.out hb.size); obtain ⟨c0, c1, c2, c3, c4, c5, c6, c7, c8, c9, c10, c11, c12, c13, c14⟩ := HF.out.later HU3.out; clear ho hb hk))
  rw [rounds_succ]
  go_wp2_with (first
    | (go_at_call 23; with_reducible refine Calls.mono (type_b _) ?_; rintro e x3 ⟨rfl, hx⟩; have XA3 := hide hx; clear hx)
    | (go_at_call 9; with_reducible refine Calls.mono (HP2.out _) ?_; rintro e y3 ⟨rfl, hy⟩; have XO3 := hide (((HO3.out.later (B := 0) (new_below u3 (.cells #[.int .i64 1, .int .i64 300, .string ⟨#[]⟩] 46) rfl)).later (B := 0) XA3.out).later (B := 0) hy); have XU3 := hide (below_trans HU3.out (below_trans (new_below u3 (.cells #[.int .i64 1, .int .i64 300, .string ⟨#[]⟩] 46) rfl) (below_trans XA3.out hy))); have XZ3 := hide (Nat.le_trans HZ3.out (Nat.le_trans (new_below u3 (.cells #[.int .i64 1, .int .i64 300, .string ⟨#[]⟩] 46) rfl).size (Nat.le_trans XA3.out.size hy.size))); clear hy)
    | (at_builtin; refine wp_text (by rfl) _ _ (by rfl) B _ [5, 0, 10, 1] ⟨#[2]⟩ (by rfl) XO3.out (by rfl) (by decide) XZ3.out ?_; intro v4 u4 ho hb hk; have HO4 := hide (show OwnE u4 B v4 [5, 0, 10, 1, 2] from ho); have HU4 := hide (XU3.out.trans (hb.mono HBB.out.2.2)); have HZ4 := hide (Nat.le_trans XZ3.out hb.size); obtain ⟨c0, c1, c2, c3, c4, c5, c6, c7, c8, c9, c10, c11, c12, c13, c14⟩ := HF.out.later HU4.out; clear ho hb hk))
  rw [rounds_succ]
  go_wp2_with (first
    | (go_at_call 23; with_reducible refine Calls.mono (type_ab _) ?_; rintro e x4 ⟨rfl, hx⟩; have XA4 := hide hx; clear hx)
    | (go_at_call 9; with_reducible refine Calls.mono (HP17.out _) ?_; rintro e y4 ⟨rfl, hy⟩; have XO4 := hide (((HO4.out.later (B := 0) (new_below u4 (.cells #[.int .i64 2, .int .i64 0, .string ⟨#[97, 98]⟩] 46) rfl)).later (B := 0) XA4.out).later (B := 0) hy); have XU4 := hide (below_trans HU4.out (below_trans (new_below u4 (.cells #[.int .i64 2, .int .i64 0, .string ⟨#[97, 98]⟩] 46) rfl) (below_trans XA4.out hy))); have XZ4 := hide (Nat.le_trans HZ4.out (Nat.le_trans (new_below u4 (.cells #[.int .i64 2, .int .i64 0, .string ⟨#[97, 98]⟩] 46) rfl).size (Nat.le_trans XA4.out.size hy.size))); clear hy)
    | (at_builtin; refine wp_text (by rfl) _ _ (by rfl) B _ [5, 0, 10, 1, 2] ⟨#[17]⟩ (by rfl) XO4.out (by rfl) (by decide) XZ4.out ?_; intro v5 u5 ho hb hk; have HO5 := hide (show OwnE u5 B v5 [5, 0, 10, 1, 2, 17] from ho); have HU5 := hide (XU4.out.trans (hb.mono HBB.out.2.2)); have HZ5 := hide (Nat.le_trans XZ4.out hb.size); obtain ⟨c0, c1, c2, c3, c4, c5, c6, c7, c8, c9, c10, c11, c12, c13, c14⟩ := HF.out.later HU5.out; clear ho hb hk))
  rw [rounds_succ]
  go_wp2_with fail
  refine wp_loop_rounds 6 ?_
  rw [rounds_succ]
  go_wp2_with (first
    | (go_at_call 24; (with_reducible refine Calls.mono (app_null B v5 [5, 0, 10, 1, 2, 17] (by decide) _ (HO5.out.later (B := 0) (new_below u5 (.cells #[.int .i64 0, .int .i64 0, .string ⟨#[]⟩] 46) rfl)) (Nat.le_trans HZ5.out (new_below u5 (.cells #[.int .i64 0, .int .i64 0, .string ⟨#[]⟩] 46) rfl).size)) ?_); rintro e u6 ⟨v6, rfl, ho, hb⟩; have HO6 := hide (show OwnE u6 B v6 [5, 0, 10, 1, 2, 17] from ho); have HU6 := hide ((below_trans HU5.out (new_below u5 (.cells #[.int .i64 0, .int .i64 0, .string ⟨#[]⟩] 46) rfl)).trans (hb.mono HBB.out.2.2)); have HZ6 := hide (Nat.le_trans (Nat.le_trans HZ5.out (new_below u5 (.cells #[.int .i64 0, .int .i64 0, .string ⟨#[]⟩] 46) rfl).size) hb.size); obtain ⟨c0, c1, c2, c3, c4, c5, c6, c7, c8, c9, c10, c11, c12, c13, c14⟩ := HF.out.later HU6.out; clear ho hb))
  rw [rounds_succ]
  go_wp2_with (first
    | (go_at_call 24; (with_reducible refine Calls.mono (app_one B v6 [5, 0, 10, 1, 2, 17] (by decide) _ (HO6.out.later (B := 0) (new_below u6 (.cells #[.int .i64 1, .int .i64 1, .string ⟨#[]⟩] 46) rfl)) (Nat.le_trans HZ6.out (new_below u6 (.cells #[.int .i64 1, .int .i64 1, .string ⟨#[]⟩] 46) rfl).size)) ?_); rintro e u7 ⟨v7, rfl, ho, hb⟩; have HO7 := hide (show OwnE u7 B v7 [5, 0, 10, 1, 2, 17] from ho); have HU7 := hide ((below_trans HU6.out (new_below u6 (.cells #[.int .i64 1, .int .i64 1, .string ⟨#[]⟩] 46) rfl)).trans (hb.mono HBB.out.2.2)); have HZ7 := hide (Nat.le_trans (Nat.le_trans HZ6.out (new_below u6 (.cells #[.int .i64 1, .int .i64 1, .string ⟨#[]⟩] 46) rfl).size) hb.size); obtain ⟨c0, c1, c2, c3, c4, c5, c6, c7, c8, c9, c10, c11, c12, c13, c14⟩ := HF.out.later HU7.out; clear ho hb))
  rw [rounds_succ]
  go_wp2_with (first
    | (go_at_call 24; (with_reducible refine Calls.mono (app_a B v7 [5, 0, 10, 1, 2, 17] (by decide) _ (HO7.out.later (B := 0) (new_below u7 (.cells #[.int .i64 1, .int .i64 (-2), .string ⟨#[]⟩] 46) rfl)) (Nat.le_trans HZ7.out (new_below u7 (.cells #[.int .i64 1, .int .i64 (-2), .string ⟨#[]⟩] 46) rfl).size)) ?_); rintro e u8 ⟨v8, rfl, ho, hb⟩; have HO8 := hide (show OwnE u8 B v8 [5, 0, 10, 1, 2, 17, 254] from ho); have HU8 := hide ((below_trans HU7.out (new_below u7 (.cells #[.int .i64 1, .int .i64 (-2), .string ⟨#[]⟩] 46) rfl)).trans (hb.mono HBB.out.2.2)); have HZ8 := hide (Nat.le_trans (Nat.le_trans HZ7.out (new_below u7 (.cells #[.int .i64 1, .int .i64 (-2), .string ⟨#[]⟩] 46) rfl).size) hb.size); obtain ⟨c0, c1, c2, c3, c4, c5, c6, c7, c8, c9, c10, c11, c12, c13, c14⟩ := HF.out.later HU8.out; clear ho hb))
  rw [rounds_succ]
  go_wp2_with (first
    | (go_at_call 24; (with_reducible refine Calls.mono (app_b B v8 [5, 0, 10, 1, 2, 17, 254] (by decide) _ (HO8.out.later (B := 0) (new_below u8 (.cells #[.int .i64 1, .int .i64 300, .string ⟨#[]⟩] 46) rfl)) (Nat.le_trans HZ8.out (new_below u8 (.cells #[.int .i64 1, .int .i64 300, .string ⟨#[]⟩] 46) rfl).size)) ?_); rintro e u9 ⟨v9, rfl, ho, hb⟩; have HO9 := hide (show OwnE u9 B v9 [5, 0, 10, 1, 2, 17, 254, 1, 44] from ho); have HU9 := hide ((below_trans HU8.out (new_below u8 (.cells #[.int .i64 1, .int .i64 300, .string ⟨#[]⟩] 46) rfl)).trans (hb.mono HBB.out.2.2)); have HZ9 := hide (Nat.le_trans (Nat.le_trans HZ8.out (new_below u8 (.cells #[.int .i64 1, .int .i64 300, .string ⟨#[]⟩] 46) rfl).size) hb.size); obtain ⟨c0, c1, c2, c3, c4, c5, c6, c7, c8, c9, c10, c11, c12, c13, c14⟩ := HF.out.later HU9.out; clear ho hb))
  rw [rounds_succ]
  go_wp2_with (first
    | (go_at_call 24; (with_reducible refine Calls.mono (app_ab B v9 [5, 0, 10, 1, 2, 17, 254, 1, 44] (by decide) _ (HO9.out.later (B := 0) (new_below u9 (.cells #[.int .i64 2, .int .i64 0, .string ⟨#[97, 98]⟩] 46) rfl)) (Nat.le_trans HZ9.out (new_below u9 (.cells #[.int .i64 2, .int .i64 0, .string ⟨#[97, 98]⟩] 46) rfl).size)) ?_); rintro e u10 ⟨v10, rfl, ho, hb⟩; have HO10 := hide (show OwnE u10 B v10 [5, 0, 10, 1, 2, 17, 254, 1, 44, 97, 98] from ho); have HU10 := hide ((below_trans HU9.out (new_below u9 (.cells #[.int .i64 2, .int .i64 0, .string ⟨#[97, 98]⟩] 46) rfl)).trans (hb.mono HBB.out.2.2)); have HZ10 := hide (Nat.le_trans (Nat.le_trans HZ9.out (new_below u9 (.cells #[.int .i64 2, .int .i64 0, .string ⟨#[97, 98]⟩] 46) rfl).size) hb.size); obtain ⟨c0, c1, c2, c3, c4, c5, c6, c7, c8, c9, c10, c11, c12, c13, c14⟩ := HF.out.later HU10.out; clear ho hb))
  obtain ⟨gq, cq, hvq⟩ : ∃ gq cq, v10 = .slice (some ⟨gq, 0, none⟩) 11 cq := by
    obtain ⟨gq, cq, _, _, hvq, _⟩ := HO10.out
    exact ⟨gq, cq, hvq⟩
  subst hvq
  have hcv2 := conv_ownE HO10.out
  rw [rounds_succ]
  go_wp2_with fail
  go_ret2
  exact ⟨rfl, HU10.out⟩
end Go.Proofs.Ytfjmoiooonialaa
