/- The document's In over any list. -/
import Derived.Test.YtoekdeoekcmpgaaGreatDoorIB
namespace Go.Proofs.YtoekdeoekcmpgaaGreatDoor
open Go.ChangeShapes Go.WideShapes Go.ChangeAt Go.RowKit
set_option linter.unusedVariables false

theorem req_fn (c k n : Int) (t : ByteArray) (k2 n2 : Int) (t2 : ByteArray) (hm1 : mayB k n t = true) (hm2 : mayB k2 n2 t2 = true) (V : World) :
    Calls Tryz.prog 19 #[.int .i64 13, .agg #[.int .i64 k, .int .i64 n, .string t], .agg #[.int .i64 k2, .int .i64 n2, .string t2], .int .i64 c] V fun e w' => e = .returned (.tuple #[val (vk (eqX c k n t k2 n2 t2)) (vn (eqX c k n t k2 n2 t2)) ⟨#[]⟩, .int .i64 0]) ∧ Below V.heap.size V w' := by
  have e : tv (eqX c k n t k2 n2 t2) = nulV k k2 (truthV (decide (cmpA k n t k2 n2 t2 c = 0))) := (nulV_tv _ _ _).symm
  show Calls _ _ _ _ fun e w' => e = .returned (.tuple #[tv (eqX c k n t k2 n2 t2), .int .i64 0]) ∧ Below V.heap.size V w'
  rw [e]
  unfold nulV
  by_cases hk : k = 0
  · subst hk
    rw [if_pos (.inl rfl)]
    exact rbinA_13 c n t n2 t2 k2 hm1 hm2 V
  by_cases hk2 : k2 = 0
  · subst hk2
    rw [if_pos (.inr rfl)]
    exact rbinB_13 c n t n2 t2 k (by simpa using hk) hm1 hm2 V
  rw [if_neg (by omega)]
  exact rbin_eq c k n t k2 n2 t2 hm1 hm2 (by simpa using hk) (by simpa using hk2) V
theorem tri_tr (o : Option Int) : (truthI o == 1) = (trB o == some true) ∧ decide (0 ≤ truthI o) = (trB o).isSome := by
  cases o with
  | none => exact ⟨rfl, rfl⟩
  | some m => by_cases h : m = 0 <;> simp [truthI, trB, h]
theorem ror_fn (c : Int) (S X : Option Bool) (V : World) :
    Calls Tryz.prog 19 #[.int .i64 22, .agg #[.int .i64 (vk S), .int .i64 (vn S), .string ⟨#[]⟩], .agg #[.int .i64 (vk X), .int .i64 (vn X), .string ⟨#[]⟩], .int .i64 c] V fun e w' => e = .returned (.tuple #[val (vk (setT true S X)) (vn (setT true S X)) ⟨#[]⟩, .int .i64 0]) ∧ Below V.heap.size V w' := by
  have := rbin_or c (vk S) (vn S) ⟨#[]⟩ (vk X) (vn X) ⟨#[]⟩ (may_tv S) (may_tv X) _ _ rfl rfl V
  rw [(tri_tr _).1, (tri_tr _).1, (tri_tr _).2, (tri_tr _).2, setB_tv, tr_tv, tr_tv] at this
  exact this

/-- A value's own block, and the result's own, in every later world. -/
theorem chk_ne {len : Nat} {K N : Nat → Int} {T : Nat → ByteArray} (h : ∀ i, i < len → mayB (K i) (N i) (T i) = true) : chk len K N T ≠ 2 := by
  by_cases h16 : 16 < len
  · rw [chk_long h h16]; decide
  · rw [chk_ok h h16]; decide

theorem apart3' {X : World} {b1 b2 : Nat} {o : Obj} (h : X.heap[b2]? = some o) (hne : b1 ≠ b2) (v0 v1 v2 : Value) : (((X.setCell ⟨b1, 0, none⟩ v0).setCell ⟨b1, 1, none⟩ v1).setCell ⟨b1, 2, none⟩ v2).heap[b2]? = some o := by
  rw [Below.heap_setCell _ _ _ _ (Ne.symm hne), Below.heap_setCell _ _ _ _ (Ne.symm hne), Below.heap_setCell _ _ _ _ (Ne.symm hne)]
  exact h

set_option maxHeartbeats 1000000 in
set_option maxRecDepth 10000 in
theorem rin_row (c k n : Int) (t : ByteArray) (b o len cap : Nat) (K N : Nat → Int) (T : Nat → ByteArray) (hlen : len ≤ 140737488355328) (hc : chk len K N T = 2) (w : World) (h : RowAt w b o len K N T) :
    Calls Tryz.prog 22 #[val k n t, .slice (some ⟨b, o, none⟩) len cap, .int .i64 c] w fun e w' => e = .returned (tv none) ∧ Below w.heap.size w w' := by
  have HW : Hid (∀ V, _ → _) := pr_later w k n t
  have HC := hide (fun V (hV : Below w.heap.size w V) => by have := rcheck_some b o len cap K N T hlen V (h.later hV); rw [hc] at this; exact this)
  have HB0 := hide (HW.out _ (Below.refl _ _)).2.2.2.2.2.2
  clear h hc
  go_enter Tryz.func22, Tryz.ntmps22
  go_wp2_with (first
    | (go_at_call 53; with_reducible refine Calls.mono (HC.out _ HB0.out.out) ?_; rintro e w1 ⟨rfl, hb1⟩; have HX1 := hide hb1; obtain ⟨⟨p0, p1, p2⟩, q0, q1, q2, ⟨d0, d1, d2, f0, f1, f2⟩, HK1, HB1⟩ := HW.out _ HX1.out; clear hb1)
    | (go_at_call 37; with_reducible refine Calls.mono (rnull_walk _) ?_; rintro e w2 ⟨rfl, hb2⟩; have HX2 := hide (below_trans HX1.out hb2); obtain ⟨⟨p0, p1, p2⟩, q0, q1, q2, ⟨d0, d1, d2, f0, f1, f2⟩, HK2, HB2⟩ := HW.out _ HX2.out; clear hb2))
  exact ret_valg Tryz.results22 rfl HK2.out ⟨rfl, below_set3g HB2.out (Nat.le_succ _) _ _ _⟩

set_option maxHeartbeats 1000000 in
set_option maxRecDepth 10000 in
theorem rin_bad (c k n : Int) (t : ByteArray) (hm : mayB k n t = false) (v : Value) (E : Int) (hE : E ≠ 2) (w : World) (HC : Hid (∀ V, Below w.heap.size w V → Calls Tryz.prog 53 #[v] V fun e w' => e = .returned (.int .i64 E) ∧ Below V.heap.size V w')) :
    Calls Tryz.prog 22 #[val k n t, v, .int .i64 c] w fun e w' => e = .returned (tv none) ∧ Below w.heap.size w w' := by
  have HW : Hid (∀ V, _ → _) := pr_later w k n t
  have HM1 : Hid (∀ V, Calls Tryz.prog 36 #[.agg #[.int .i64 k, .int .i64 n, .string t]] V fun e w' => e = .returned (.bool false) ∧ Below V.heap.size V w') := fun V => by have := rmay_walk k n t V; rw [hm] at this; exact this
  have HB0 := hide (HW.out _ (Below.refl _ _)).2.2.2.2.2.2
  have hE' : (E == 2) = false := by simpa using hE
  clear hm
  go_enter Tryz.func22, Tryz.ntmps22
  go_wp2_with (first
    | (go_at_call 53; with_reducible refine Calls.mono (HC.out _ HB0.out.out) ?_; rintro e w1 ⟨rfl, hb1⟩; have HX1 := hide hb1; obtain ⟨⟨p0, p1, p2⟩, q0, q1, q2, ⟨d0, d1, d2, f0, f1, f2⟩, HK1, HB1⟩ := HW.out _ HX1.out; clear hb1)
    | (go_at_call 36; with_reducible refine Calls.mono (HM1.out _) ?_; rintro e w5 ⟨rfl, hb5⟩; have HX5 := hide (below_trans HX1.out hb5); obtain ⟨⟨p0, p1, p2⟩, q0, q1, q2, ⟨d0, d1, d2, f0, f1, f2⟩, HK5, HB5⟩ := HW.out _ HX5.out; clear hb5)
    | (go_at_call 37; with_reducible refine Calls.mono (rnull_walk _) ?_; rintro e w2 ⟨rfl, hb2⟩; have HX2 := hide (below_trans HX5.out hb2); obtain ⟨⟨p0, p1, p2⟩, q0, q1, q2, ⟨d0, d1, d2, f0, f1, f2⟩, HK2, HB2⟩ := HW.out _ HX2.out; clear hb2))
  exact ret_valg Tryz.results22 rfl HK2.out ⟨rfl, below_set3g HB2.out (Nat.le_succ _) _ _ _⟩

set_option maxHeartbeats 4000000 in
set_option maxRecDepth 10000 in
theorem rin_walk (c k n : Int) (t : ByteArray) (hm : mayB k n t = true) (b o len cap : Nat) (K N : Nat → Int) (T : Nat → ByteArray) (hlen : len ≤ 140737488355328) (hall : ∀ i, i < len → mayB (K i) (N i) (T i) = true) (w : World) (h : RowAt w b o len K N T) :
    Calls Tryz.prog 22 #[val k n t, .slice (some ⟨b, o, none⟩) len cap, .int .i64 c] w fun e w' => e = .returned (tv (orX c k n t K N T len)) ∧ Below w.heap.size w w' := by
  have HW : Hid (∀ V, _ → _) := pr_later w k n t
  have HM1 : Hid (∀ V, Calls Tryz.prog 36 #[.agg #[.int .i64 k, .int .i64 n, .string t]] V fun e w' => e = .returned (.bool true) ∧ Below V.heap.size V w') := fun V => by have := rmay_walk k n t V; rw [hm] at this; exact this
  have HI : Hid (∀ V, Calls Tryz.prog 31 #[.int .i64 0] V fun e w' => e = .returned (val 1 0 ⟨#[]⟩) ∧ Below V.heap.size V w') := fun V => rint_walk 0 V
  have hE' : (chk len K N T == 2) = false := by simpa using chk_ne hall
  have HC := hide (fun V (hV : Below w.heap.size w V) => rcheck_some b o len cap K N T hlen V (h.later hV))
  generalize chk len K N T = E at hE' HC
  have HB0 := hide (HW.out _ (Below.refl _ _)).2.2.2.2.2.2
  have HR := hide h
  have HA := hide hall
  have HMx := hide hm
  clear h hall hm
  go_enter Tryz.func22, Tryz.ntmps22
  go_wp2_with (first
    | (go_at_call 53; with_reducible refine Calls.mono (HC.out _ HB0.out.out) ?_; rintro e w1 ⟨rfl, hb1⟩; have HX1 := hide hb1; obtain ⟨⟨p0, p1, p2⟩, q0, q1, q2, ⟨d0, d1, d2, f0, f1, f2⟩, HK1, HB1⟩ := HW.out _ HX1.out; clear hb1)
    | (go_at_call 36; with_reducible refine Calls.mono (HM1.out _) ?_; rintro e w5 ⟨rfl, hb5⟩; have HX5 := hide (below_trans HX1.out hb5); obtain ⟨⟨p0, p1, p2⟩, q0, q1, q2, ⟨d0, d1, d2, f0, f1, f2⟩, HK5, HB5⟩ := HW.out _ HX5.out; clear hb5)
    | (go_at_call 31; with_reducible refine Calls.mono (HI.out _) ?_; rintro e w4 ⟨rfl, hb4⟩; have HX4 := hide (below_trans HX5.out hb4); obtain ⟨⟨p0, p1, p2⟩, q0, q1, q2, ⟨d0, d1, d2, f0, f1, f2⟩, HK4, HB4⟩ := HW.out _ HX4.out; clear hb4))
  have HR4 := hide (HR.out.later HB4.out)
  clear p0 p1 p2 q0 q1 q2 d0 d1 d2 f0 f1 f2
  go_loopw [8] (fun iv wr => ∃ j : Nat, j ≤ len ∧ iv = .int .i64 (j : Int) ∧ wr.heap[w4.heap.size]? = some (vcells (vk (orX c k n t K N T j)) (vn (orX c k n t K N T j)) ⟨#[]⟩) ∧ Below w4.heap.size w4 wr) (fun i _ => len - (intOf i).toNat)
  case atStart => exact ⟨0, Nat.zero_le _, rfl, heap_alloc_new w4 _, new_below w4 _ rfl⟩
  case round =>
    obtain ⟨j, hj, rfl, hblk, hbel⟩ := hrel
    have HB := hide hbel
    have HBk := hide hblk
    clear hbel hblk
    by_cases hlt : j < len
    · have l1 : (j : Int) < (len : Int) := by omega
      have l0 : (0 : Int) ≤ (j : Int) := by omega
      have hw1 : IntKind.i64.wrap ((j : Int) + 1) = (j : Int) + 1 := by rw [IntKind.wrap_i64]; omega
      obtain ⟨c0, c1, c2⟩ := (HR4.out.later (HB.out.drew)) j hlt
      have HQ := hide (fun V => req_fn c k n t (K j) (N j) (T j) HMx.out (HA.out j hlt) V)
      have HO := hide (fun V => ror_fn c (orX c k n t K N T j) (eqX c k n t (K j) (N j) (T j)) V)
      obtain ⟨⟨p0, p1, p2⟩, -⟩ := HW.out wr.drew (below_trans HX4.out HB.out.drew)
      have HNd := hide (below_trans HB.out ((new_below wr nilcells rfl).drew))
      obtain ⟨c0', c1', c2'⟩ := (HR4.out.later HNd.out) j hlt
      obtain ⟨⟨p0', p1', p2'⟩, -⟩ := HW.out _ (below_trans HX4.out HNd.out)
      go_wp2_with fail
      go_region_with (first
        | (go_at_call 19; with_reducible refine Calls.mono (HQ.out _) ?_; rintro e w8 ⟨rfl, hb8⟩; have HX8 := hide (below_trans (Below.refl _ wr).drew hb8); clear hb8)
        | (go_at_call 19; with_reducible refine Calls.mono (HQ.out _) ?_; rintro e w8 ⟨rfl, hb8⟩; have HY8 := hide (below_trans (Below.refl _ _).drew hb8); obtain ⟨j0, j1, j2, k0, k1, kk2⟩ := res_facts (res_block wr (.int .i64 0) (.int .i64 0) (.string ⟨#[]⟩) 24 HY8.out); clear hb8))
      all_goals
        first
          | (have HK8 := hide (res_block wr (.int .i64 0) (.int .i64 0) (.string ⟨#[]⟩) 24 HY8.out)
             have HKi := hide (set3_block HK8.out (.int .i64 (vk (eqX c k n t (K j) (N j) (T j)))) (.int .i64 (vn (eqX c k n t (K j) (N j) (T j)))) (.string ⟨#[]⟩))
             have hne : wr.heap.size ≠ w4.heap.size := by have := (Array.getElem?_eq_some_iff.1 HBk.out).1; omega
             have HKo := hide (apart3' (blk_later HBk.out (below_trans (new_below wr nilcells rfl) HY8.out)) hne (.int .i64 (vk (eqX c k n t (K j) (N j) (T j)))) (.int .i64 (vn (eqX c k n t (K j) (N j) (T j)))) (.string ⟨#[]⟩))
             have HBX := hide (below_set3g (below_trans HB.out (below_trans (new_below wr nilcells rfl) HY8.out)) (show w4.heap.size ≤ wr.heap.size by have := (Array.getElem?_eq_some_iff.1 HBk.out).1; omega) (.int .i64 (vk (eqX c k n t (K j) (N j) (T j)))) (.int .i64 (vn (eqX c k n t (K j) (N j) (T j)))) (.string ⟨#[]⟩))
             generalize (((w8.setCell ⟨wr.heap.size, 0, none⟩ (.int .i64 (vk (eqX c k n t (K j) (N j) (T j))))).setCell ⟨wr.heap.size, 1, none⟩ (.int .i64 (vn (eqX c k n t (K j) (N j) (T j))))).setCell ⟨wr.heap.size, 2, none⟩ (.string ⟨#[]⟩)) = X at HKo HKi HBX ⊢)
          | (have HKo := hide (blk_alloc (blk_later HBk.out HX8.out) (vcells (vk (eqX c k n t (K j) (N j) (T j))) (vn (eqX c k n t (K j) (N j) (T j))) ⟨#[]⟩))
             have HKi := hide (heap_alloc_new w8 (vcells (vk (eqX c k n t (K j) (N j) (T j))) (vn (eqX c k n t (K j) (N j) (T j))) ⟨#[]⟩))
             have HBX := hide (below_trans HB.out (below_trans HX8.out (new_below w8 (vcells (vk (eqX c k n t (K j) (N j) (T j))) (vn (eqX c k n t (K j) (N j) (T j))) ⟨#[]⟩) rfl)))
             generalize w8.alloc (vcells (vk (eqX c k n t (K j) (N j) (T j))) (vn (eqX c k n t (K j) (N j) (T j))) ⟨#[]⟩) = X at HKo HKi HBX ⊢)
      all_goals
        obtain ⟨i0, i1, i2, -, -, -⟩ := res_facts HKo.out
        obtain ⟨m0, m1, m2, -, -, -⟩ := res_facts HKi.out
        go_wp2_with (first
          | (go_at_call 19; with_reducible refine Calls.mono (HO.out _) ?_; rintro e w9 ⟨rfl, hb9⟩; have HX9 := hide hb9; obtain ⟨n0, n1, n2, f0, f1, f2⟩ := res_facts (blk_later HKo.out HX9.out); clear hb9))
        refine ⟨⟨j + 1, hlt, rfl, set3_block (blk_later HKo.out HX9.out) _ _ _, below_set3g (below_trans HBX.out HX9.out) (Nat.le_refl _) _ _ _⟩, ?_⟩
        simp only [intOf]
        omega
    · have l1 : ¬ (j : Int) < (len : Int) := by omega
      obtain rfl : j = len := by omega
      obtain ⟨i0, i1, i2, -, -, -⟩ := res_facts HBk.out
      obtain ⟨-, -, -, -, ⟨d0, d1, d2, f0, f1, f2⟩, HK7, HB7⟩ := HW.out _ (below_trans HX4.out HB.out)
      go_wp2_with fail
      exact ret_valg Tryz.results22 rfl HK7.out ⟨rfl, below_set3g HB7.out (Nat.le_succ _) _ _ _⟩
end Go.Proofs.YtoekdeoekcmpgaaGreatDoor
