/- Types of values; their bytes. -/
import Derived.Test.YtfjmoiooonialaaSP
namespace Go.Proofs.Ytfjmoiooonialaa
open Go.ChangeShapes Go.WideShapes Go.ChangeAt Go.RowKit
set_option linter.unusedVariables false

set_option maxHeartbeats 1000000 in
theorem width_a (w : World) : Calls Try.prog 36 #[.int .i64 (-2)] w fun e w' => e = .returned (.int .i64 1) ∧ w = w' := by
  have HL : Hid (∀ V, Calls Try.prog 34 #[.int .u64 1] V fun e w' => e = .returned (.int .i64 1) ∧ w' = V) := fun V => Try.bits_Len64 1 V (by decide) (by decide)
  have hx : bits BinOp.xor IntKind.i64 (-2) (-1) = 1 := by decide
  go_enter Try.func36, Try.ntmps36
  go_wp2_with (first
    | (go_at_call 34; with_reducible refine Calls.mono (HL.out _) ?_; rintro e w1 ⟨rfl, rfl⟩))
  go_ret
  exact ⟨rfl, rfl⟩
set_option maxHeartbeats 1000000 in
theorem width_b (w : World) : Calls Try.prog 36 #[.int .i64 300] w fun e w' => e = .returned (.int .i64 2) ∧ w = w' := by
  have HL : Hid (∀ V, Calls Try.prog 34 #[.int .u64 300] V fun e w' => e = .returned (.int .i64 9) ∧ w' = V) := fun V => Try.bits_Len64 300 V (by decide) (by decide)
  have hx : bits BinOp.xor IntKind.i64 300 0 = 300 := by decide
  go_enter Try.func36, Try.ntmps36
  go_wp2_with (first
    | (go_at_call 34; with_reducible refine Calls.mono (HL.out _) ?_; rintro e w1 ⟨rfl, rfl⟩))
  go_ret
  exact ⟨rfl, rfl⟩
set_option maxHeartbeats 1000000 in
theorem type_null (w : World) : Calls Try.prog 23 #[val 0 0 ⟨#[]⟩] w fun e w' => e = .returned (.int .u64 0) ∧ Below w.heap.size w w' := by
  go_enter Try.func23, Try.ntmps23
  go_wp2
  go_ret
  exact ⟨rfl, by go_grown⟩
set_option maxHeartbeats 1000000 in
theorem type_one (w : World) : Calls Try.prog 23 #[val 1 1 ⟨#[]⟩] w fun e w' => e = .returned (.int .u64 10) ∧ Below w.heap.size w w' := by
  go_enter Try.func23, Try.ntmps23
  go_wp2
  go_ret
  exact ⟨rfl, by go_grown⟩
set_option maxHeartbeats 1000000 in
theorem type_a (w : World) : Calls Try.prog 23 #[val 1 (-2) ⟨#[]⟩] w fun e w' => e = .returned (.int .u64 1) ∧ Below w.heap.size w w' := by
  go_enter Try.func23, Try.ntmps23
  go_wp2_with (first
    | (go_at_call 36; with_reducible refine Calls.mono (width_a _) ?_; rintro e w1 ⟨rfl, rfl⟩))
  go_ret
  exact ⟨rfl, by go_grown⟩
set_option maxHeartbeats 1000000 in
theorem type_b (w : World) : Calls Try.prog 23 #[val 1 300 ⟨#[]⟩] w fun e w' => e = .returned (.int .u64 2) ∧ Below w.heap.size w w' := by
  go_enter Try.func23, Try.ntmps23
  go_wp2_with (first
    | (go_at_call 36; with_reducible refine Calls.mono (width_b _) ?_; rintro e w1 ⟨rfl, rfl⟩))
  go_ret
  exact ⟨rfl, by go_grown⟩
set_option maxHeartbeats 1000000 in
theorem type_ab (w : World) : Calls Try.prog 23 #[val 2 0 ⟨#[97, 98]⟩] w fun e w' => e = .returned (.int .u64 17) ∧ Below w.heap.size w w' := by
  go_enter Try.func23, Try.ntmps23
  go_wp2
  go_ret
  exact ⟨rfl, by go_grown⟩

set_option maxHeartbeats 1000000 in
set_option maxRecDepth 10000 in
theorem app_null (base : Nat) (vb : Value) (l : List UInt8) (hl : l.length ≤ 1000) (w : World) (ho : OwnE w base vb l) (hb : base ≤ w.heap.size) : Calls Try.prog 24 #[vb, val 0 0 ⟨#[]⟩] w fun e w' => ∃ v', e = .returned v' ∧ OwnE w' base v' (l ++ []) ∧ Below base w w' := by
  have HO := hide ho
  have HL := hide hl
  have HBs := hide hb
  clear ho hl hb
  go_enter Try.func24, Try.ntmps24
  go_wp2_with (first
    | (go_at_call 23; with_reducible refine Calls.mono (type_null _) ?_; rintro e w1 ⟨rfl, hb1⟩; have HX1 := hide hb1; have HO1 := hide ((HO.out.later (B := 0) (new_below w (.cells #[.int .i64 0, .int .i64 0, .string ⟨#[]⟩] 46) rfl)).later (B := 0) hb1); have HB1 := hide (((Below.refl base w).alloc HBs.out (.cells #[.int .i64 0, .int .i64 0, .string ⟨#[]⟩] 46)).trans (hb1.mono (by have := HBs.out; simp; omega))); have HZ1 := hide (Nat.le_trans HBs.out HB1.out.size); have HK1 := hide (show w1.heap[w.heap.size]? = some (.cells #[.int .i64 0, .int .i64 0, .string ⟨#[]⟩] 46) by rw [hb1.block _ (by simp)]; exact blk_new w _); obtain ⟨e0, e1, e2, -⟩ := res_facts HK1.out; have HQ1 := hide (HO.out.lt w.heap.size (Nat.le_refl _)); clear hb1))
  refine wp_loop_rounds 1 ?_
  rw [rounds_succ]
  go_wp2_with (first
    | (at_builtin; refine wp_text (by rfl) _ _ (by rfl) base _ l ⟨#[]⟩ (by rfl) HO1.out (by rfl) (by have h1 := HL.out; have h2 : (⟨#[]⟩ : ByteArray).size ≤ 2 := (by decide); (try simp only [List.length_append, List.length_singleton]); omega) HZ1.out ?_; intro v' w' ho' hb' hk'; have HO' := hide ho'; have HB' := hide (HB1.out.trans hb'); clear ho' hb' hk'))
  go_ret
  exact ⟨v', rfl, by simpa using HO'.out, HB'.out⟩

set_option maxHeartbeats 1000000 in
set_option maxRecDepth 10000 in
theorem app_one (base : Nat) (vb : Value) (l : List UInt8) (hl : l.length ≤ 1000) (w : World) (ho : OwnE w base vb l) (hb : base ≤ w.heap.size) : Calls Try.prog 24 #[vb, val 1 1 ⟨#[]⟩] w fun e w' => ∃ v', e = .returned v' ∧ OwnE w' base v' (l ++ []) ∧ Below base w w' := by
  have HO := hide ho
  have HL := hide hl
  have HBs := hide hb
  clear ho hl hb
  go_enter Try.func24, Try.ntmps24
  go_wp2_with (first
    | (go_at_call 23; with_reducible refine Calls.mono (type_one _) ?_; rintro e w1 ⟨rfl, hb1⟩; have HX1 := hide hb1; have HO1 := hide ((HO.out.later (B := 0) (new_below w (.cells #[.int .i64 1, .int .i64 1, .string ⟨#[]⟩] 46) rfl)).later (B := 0) hb1); have HB1 := hide (((Below.refl base w).alloc HBs.out (.cells #[.int .i64 1, .int .i64 1, .string ⟨#[]⟩] 46)).trans (hb1.mono (by have := HBs.out; simp; omega))); have HZ1 := hide (Nat.le_trans HBs.out HB1.out.size); have HK1 := hide (show w1.heap[w.heap.size]? = some (.cells #[.int .i64 1, .int .i64 1, .string ⟨#[]⟩] 46) by rw [hb1.block _ (by simp)]; exact blk_new w _); obtain ⟨e0, e1, e2, -⟩ := res_facts HK1.out; have HQ1 := hide (HO.out.lt w.heap.size (Nat.le_refl _)); clear hb1)
    | (at_builtin; refine wp_text (by rfl) _ _ (by rfl) base _ l ⟨#[]⟩ (by rfl) HO1.out (by rfl) (by have h1 := HL.out; have h2 : (⟨#[]⟩ : ByteArray).size ≤ 2 := (by decide); (try simp only [List.length_append, List.length_singleton]); omega) HZ1.out ?_; intro v' w' ho' hb' hk'; have HO' := hide ho'; have HB' := hide (HB1.out.trans hb'); clear ho' hb' hk'))
  go_ret
  exact ⟨v', rfl, by simpa using HO'.out, HB'.out⟩

set_option maxHeartbeats 1000000 in
set_option maxRecDepth 10000 in
theorem app_ab (base : Nat) (vb : Value) (l : List UInt8) (hl : l.length ≤ 1000) (w : World) (ho : OwnE w base vb l) (hb : base ≤ w.heap.size) : Calls Try.prog 24 #[vb, val 2 0 ⟨#[97, 98]⟩] w fun e w' => ∃ v', e = .returned v' ∧ OwnE w' base v' (l ++ [97, 98]) ∧ Below base w w' := by
  have HO := hide ho
  have HL := hide hl
  have HBs := hide hb
  clear ho hl hb
  go_enter Try.func24, Try.ntmps24
  go_wp2_with (first
    | (go_at_call 23; with_reducible refine Calls.mono (type_ab _) ?_; rintro e w1 ⟨rfl, hb1⟩; have HX1 := hide hb1; have HO1 := hide ((HO.out.later (B := 0) (new_below w (.cells #[.int .i64 2, .int .i64 0, .string ⟨#[97, 98]⟩] 46) rfl)).later (B := 0) hb1); have HB1 := hide (((Below.refl base w).alloc HBs.out (.cells #[.int .i64 2, .int .i64 0, .string ⟨#[97, 98]⟩] 46)).trans (hb1.mono (by have := HBs.out; simp; omega))); have HZ1 := hide (Nat.le_trans HBs.out HB1.out.size); have HK1 := hide (show w1.heap[w.heap.size]? = some (.cells #[.int .i64 2, .int .i64 0, .string ⟨#[97, 98]⟩] 46) by rw [hb1.block _ (by simp)]; exact blk_new w _); obtain ⟨e0, e1, e2, -⟩ := res_facts HK1.out; have HQ1 := hide (HO.out.lt w.heap.size (Nat.le_refl _)); clear hb1)
    | (at_builtin; refine wp_text (by rfl) _ _ (by rfl) base _ l ⟨#[97, 98]⟩ (by rfl) HO1.out (by rfl) (by have h1 := HL.out; have h2 : (⟨#[97, 98]⟩ : ByteArray).size ≤ 2 := (by decide); (try simp only [List.length_append, List.length_singleton]); omega) HZ1.out ?_; intro v' w' ho' hb' hk'; have HO' := hide ho'; have HB' := hide (HB1.out.trans hb'); clear ho' hb' hk'))
  go_ret
  exact ⟨v', rfl, by simpa using HO'.out, HB'.out⟩

set_option maxHeartbeats 1000000 in
set_option maxRecDepth 10000 in
theorem app_a (base : Nat) (vb : Value) (l : List UInt8) (hl : l.length ≤ 1000) (w : World) (ho : OwnE w base vb l) (hb : base ≤ w.heap.size) : Calls Try.prog 24 #[vb, val 1 (-2) ⟨#[]⟩] w fun e w' => ∃ v', e = .returned v' ∧ OwnE w' base v' (l ++ [254]) ∧ Below base w w' := by
  have HO := hide ho
  have HL := hide hl
  have HBs := hide hb
  clear ho hl hb
  go_enter Try.func24, Try.ntmps24
  go_wp2_with (first
    | (go_at_call 23; with_reducible refine Calls.mono (type_a _) ?_; rintro e w1 ⟨rfl, hb1⟩; have HX1 := hide hb1; have HO1 := hide ((HO.out.later (B := 0) (new_below w (.cells #[.int .i64 1, .int .i64 (-2), .string ⟨#[]⟩] 46) rfl)).later (B := 0) hb1); have HB1 := hide (((Below.refl base w).alloc HBs.out (.cells #[.int .i64 1, .int .i64 (-2), .string ⟨#[]⟩] 46)).trans (hb1.mono (by have := HBs.out; simp; omega))); have HZ1 := hide (Nat.le_trans HBs.out HB1.out.size); have HK1 := hide (show w1.heap[w.heap.size]? = some (.cells #[.int .i64 1, .int .i64 (-2), .string ⟨#[]⟩] 46) by rw [hb1.block _ (by simp)]; exact blk_new w _); obtain ⟨e0, e1, e2, -⟩ := res_facts HK1.out; have HQ1 := hide (HO.out.lt w.heap.size (Nat.le_refl _)); clear hb1))
  refine wp_loop_rounds 2 ?_
  rw [rounds_succ]
  go_wp2_with (first
    | (at_builtin; refine wp_byte (by rfl) _ _ (by rfl) base _ l 254 _ (by first | rfl | decide) (by rfl) HO1.out (by rfl) (by have h1 := HL.out; (try simp only [List.length_append, List.length_singleton]); omega) HZ1.out ?_; intro v2 w2 ho2 hb2 hk2; have HO2 := hide ho2; have HB2 := hide (HB1.out.trans hb2); have HZ2 := hide (Nat.le_trans HZ1.out hb2.size); have HK2 := hide ((hk2 w.heap.size (Array.getElem?_eq_some_iff.1 HK1.out).1 HQ1.out).1.trans HK1.out); have HQ2 := hide (hk2 w.heap.size (Array.getElem?_eq_some_iff.1 HK1.out).1 HQ1.out).2; obtain ⟨e0, e1, e2, -⟩ := res_facts HK2.out; clear ho2 hb2 hk2))
  rw [rounds_succ]
  go_wp2_with (first
    | (at_builtin; refine wp_text (by rfl) _ _ (by rfl) base _ (l ++ [254]) ⟨#[]⟩ (by rfl) HO2.out (by rfl) (by have h1 := HL.out; have h2 : (⟨#[]⟩ : ByteArray).size ≤ 2 := (by decide); (try simp only [List.length_append, List.length_singleton]); omega) HZ2.out ?_; intro v' w' ho' hb' hk'; have HO' := hide ho'; have HB' := hide (HB2.out.trans hb'); clear ho' hb' hk'))
  go_ret
  exact ⟨v', rfl, by simpa using HO'.out, HB'.out⟩

set_option maxHeartbeats 1000000 in
set_option maxRecDepth 10000 in
theorem app_b (base : Nat) (vb : Value) (l : List UInt8) (hl : l.length ≤ 1000) (w : World) (ho : OwnE w base vb l) (hb : base ≤ w.heap.size) : Calls Try.prog 24 #[vb, val 1 300 ⟨#[]⟩] w fun e w' => ∃ v', e = .returned v' ∧ OwnE w' base v' (l ++ [1, 44]) ∧ Below base w w' := by
  have HO := hide ho
  have HL := hide hl
  have HBs := hide hb
  clear ho hl hb
  go_enter Try.func24, Try.ntmps24
  go_wp2_with (first
    | (go_at_call 23; with_reducible refine Calls.mono (type_b _) ?_; rintro e w1 ⟨rfl, hb1⟩; have HX1 := hide hb1; have HO1 := hide ((HO.out.later (B := 0) (new_below w (.cells #[.int .i64 1, .int .i64 300, .string ⟨#[]⟩] 46) rfl)).later (B := 0) hb1); have HB1 := hide (((Below.refl base w).alloc HBs.out (.cells #[.int .i64 1, .int .i64 300, .string ⟨#[]⟩] 46)).trans (hb1.mono (by have := HBs.out; simp; omega))); have HZ1 := hide (Nat.le_trans HBs.out HB1.out.size); have HK1 := hide (show w1.heap[w.heap.size]? = some (.cells #[.int .i64 1, .int .i64 300, .string ⟨#[]⟩] 46) by rw [hb1.block _ (by simp)]; exact blk_new w _); obtain ⟨e0, e1, e2, -⟩ := res_facts HK1.out; have HQ1 := hide (HO.out.lt w.heap.size (Nat.le_refl _)); clear hb1))
  refine wp_loop_rounds 3 ?_
  rw [rounds_succ]
  go_wp2_with (first
    | (at_builtin; refine wp_byte (by rfl) _ _ (by rfl) base _ l 1 _ (by first | rfl | decide) (by rfl) HO1.out (by rfl) (by have h1 := HL.out; (try simp only [List.length_append, List.length_singleton]); omega) HZ1.out ?_; intro v2 w2 ho2 hb2 hk2; have HO2 := hide ho2; have HB2 := hide (HB1.out.trans hb2); have HZ2 := hide (Nat.le_trans HZ1.out hb2.size); have HK2 := hide ((hk2 w.heap.size (Array.getElem?_eq_some_iff.1 HK1.out).1 HQ1.out).1.trans HK1.out); have HQ2 := hide (hk2 w.heap.size (Array.getElem?_eq_some_iff.1 HK1.out).1 HQ1.out).2; obtain ⟨e0, e1, e2, -⟩ := res_facts HK2.out; clear ho2 hb2 hk2))
  rw [rounds_succ]
  go_wp2_with (first
    | (at_builtin; refine wp_byte (by rfl) _ _ (by rfl) base _ (l ++ [1]) 44 _ (by first | rfl | decide) (by rfl) HO2.out (by rfl) (by have h1 := HL.out; (try simp only [List.length_append, List.length_singleton]); omega) HZ2.out ?_; intro v3 w3 ho3 hb3 hk3; have HO3 := hide ho3; have HB3 := hide (HB2.out.trans hb3); have HZ3 := hide (Nat.le_trans HZ2.out hb3.size); have HK3 := hide ((hk3 w.heap.size (Array.getElem?_eq_some_iff.1 HK2.out).1 HQ2.out).1.trans HK2.out); have HQ3 := hide (hk3 w.heap.size (Array.getElem?_eq_some_iff.1 HK2.out).1 HQ2.out).2; obtain ⟨e0, e1, e2, -⟩ := res_facts HK3.out; clear ho3 hb3 hk3))
  rw [rounds_succ]
  go_wp2_with (first
    | (at_builtin; refine wp_text (by rfl) _ _ (by rfl) base _ ((l ++ [1]) ++ [44]) ⟨#[]⟩ (by rfl) HO3.out (by rfl) (by have h1 := HL.out; have h2 : (⟨#[]⟩ : ByteArray).size ≤ 2 := (by decide); (try simp only [List.length_append, List.length_singleton]); omega) HZ3.out ?_; intro v' w' ho' hb' hk'; have HO' := hide ho'; have HB' := hide (HB3.out.trans hb'); clear ho' hb' hk'))
  go_ret
  exact ⟨v', rfl, by simpa using HO'.out, HB'.out⟩

end Go.Proofs.Ytfjmoiooonialaa
