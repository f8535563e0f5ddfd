/- The document's Written: words, numbers, params, signs. (genKRc.py) -/
import Derived.Test.YtkooijhdjjdigaaDoorKRb
namespace Go.Proofs.YtkooijhdjjdigaaDoor
open Go.ChangeShapes Go.WideShapes Go.ChangeAt Go.RowKit
set_option linter.unusedVariables false

/-- The text that Written answers is what is written, if it may be. -/
def WrtR (k : Int) (t : List UInt8) (r : ByteArray) : Prop := ∀ s, wrt k t = some s → r.data.toList = s
theorem wrt_out {k : Int} {t : List UInt8} (h3 : k ≠ 3) (h4 : k ≠ 4) (h : k < 1 ∨ 6 < k) : wrt k t = none := by
  unfold wrt
  rw [if_neg h3, if_neg h4]
  refine if_neg fun hh => ?_
  cases hb : bare k t with
  | nil => rw [hb] at hh; simp [tok] at hh
  | cons c r => have h1 := hh.2; rw [hb] at h1; have := tok_kind h1; omega
theorem wrt_nil {k : Int} {t : List UInt8} (h3 : k ≠ 3) (h4 : k ≠ 4) (h : bare k t = []) : wrt k t = none := by
  unfold wrt
  rw [if_neg h3, if_neg h4, h]
  exact if_neg fun hh => by simp [tok] at hh
theorem wrtR_none {k : Int} {t : List UInt8} {r : ByteArray} (h : wrt k t = none) : WrtR k t r := fun s hs => by rw [h] at hs; cases hs
theorem tokE_len {s : List UInt8} (h : tokE s 0 = (s.length : Int)) : ∃ k, tok s = some (s.length, k) ∧ tokK s = k := by
  unfold tokE at h
  unfold tokK
  cases hh : tok s with
  | none => rw [hh] at h; (simp at h) <;> omega
  | some nk =>
    obtain ⟨n, k⟩ := nk
    rw [hh] at h
    simp at h
    exact ⟨k, by rw [show n = s.length by omega], rfl⟩
set_option maxHeartbeats 4000000 in
set_option maxRecDepth 10000 in
theorem writtenB (k a : Int) (h3 : k ≠ 3) (h4 : k ≠ 4) (h5 : k ≠ 5) (t : ByteArray) (ht : t.size ≤ 4000000000000) (w : World) :
    Calls Tryd.prog 37 #[.agg #[.int .i64 k, .int .i64 a, .string t]] w fun e w' => ∃ r, e = .returned (.tuple #[.string r, .bool (wrt k t.data.toList).isSome]) ∧ WrtR k t.data.toList r ∧ Below w.heap.size w w' := by
  have HV := hide (fun V h => later_block w (.int .i64 k) (.int .i64 a) (.string t) 39 V h)
  obtain ⟨W1, hW1⟩ : ∃ W1, w.alloc (.cells #[.int .i64 k, .int .i64 a, .string t] 39) = W1 := ⟨_, rfl⟩
  have hW1b : Below w.heap.size w W1 := by rw [← hW1]; exact (Below.refl _ _).alloc (Nat.le_refl _) _
  rw [hW1] at HV
  obtain ⟨d0, d1, d2, _⟩ := HV.out W1 (Below.refl _ _)
  have HW := hide hW1b
  clear hW1b
  obtain ⟨B, hB⟩ : ∃ B, (wrt k t.data.toList).isSome = B := ⟨_, rfl⟩
  rw [hB]
  have e3 : (k == 3) = false := by simpa using h3
  have e4 : (k == 4) = false := by simpa using h4
  have e5 : (k == 5) = false := by simpa using h5
  have hSl : t.data.toList = bare k t.data.toList := by rw [bare, if_neg h5]
  have hSs : t.size ≤ 4000000000001 := by omega
  by_cases hn : t.data.toList = []
  · have hN := wrt_nil (t := t.data.toList) h3 h4 (by rw [← hSl]; exact hn)
    rw [hN] at hB
    obtain rfl : false = B := hB
    have HN := hide hN
    obtain rfl : t = ⟨#[]⟩ := ba_eq hn
    clear h3 h4 h5 hSl hn hSs hN
    go_enter Tryd.func37, Tryd.ntmps37
    go_upto_region 1 with fail
    clear hW1
    go_wp2
    go_ret2
    exact ⟨_, rfl, wrtR_none HN.out, HW.out⟩
  have hn2 : t.toList.isEmpty = false := by rw [ByteArray.toList_eq]; simpa using hn
  by_cases ho : k < 1 ∨ 6 < k
  · have hN := wrt_out (t := t.data.toList) h3 h4 ho
    rw [hN] at hB
    obtain rfl : false = B := hB
    have HN := hide hN
    clear h3 h4 h5 hSl hSs hN hn
    rcases ho with ho | ho
    · go_enter Tryd.func37, Tryd.ntmps37
      go_upto_region 1 with fail
      clear hW1
      go_wp2
      go_ret2
      exact ⟨_, rfl, wrtR_none HN.out, HW.out⟩
    · have ho2 : ¬ k < 1 := by omega
      go_enter Tryd.func37, Tryd.ntmps37
      go_upto_region 1 with fail
      clear hW1
      go_wp2
      go_ret2
      exact ⟨_, rfl, wrtR_none HN.out, HW.out⟩
  have o1 : ¬ k < 1 := by omega
  have o2 : ¬ (6 : Int) < k := by omega
  have hSp : 0 < t.size := by
    rcases Nat.eq_zero_or_pos t.size with h | h
    · exact absurd (List.length_eq_zero_iff.1 ((size_list t).trans h)) hn
    · exact h
  have hE := fun V => end_e t (by omega) 0 hSp V
  rw [List.drop_zero] at hE
  obtain ⟨X, hX⟩ : ∃ X, tokE t.data.toList 0 = X := ⟨_, rfl⟩
  obtain ⟨K, hK⟩ : ∃ K, tokK t.data.toList = K := ⟨_, rfl⟩
  rw [hX, hK] at hE
  have HE := hide hE
  have hw : wrt k t.data.toList = if (0 : Int) ≤ k ∧ tok t.data.toList = some (t.data.toList.length, (k : Int).toNat) then some t.data.toList else none := by
    unfold wrt
    rw [if_neg h3, if_neg h4, ← hSl]
  by_cases hx : X = (t.size : Int)
  · have hX2 := hX.trans hx
    rw [← size_list] at hX2
    obtain ⟨k2, ht2, hk2⟩ := tokE_len hX2
    rw [hK] at hk2
    subst hk2
    by_cases hk : (K : Int) = k
    · have ht3 : tok t.data.toList = some (t.data.toList.length, (k : Int).toNat) := by rw [ht2, show (k : Int).toNat = K by omega]
      rw [if_pos ⟨by omega, ht3⟩] at hw
      have hBt : tokT t.data.toList K = t.data.toList := by
        have := (wrt_tok (R := []) hw brk_nil).2.1
        rw [show (k : Int).toNat = K by omega] at this
        exact this
      have hBy := fun V => rbytes_e t (by omega) K (by omega) (by omega) (by omega) V
      rw [hBt, ← ba_eq (s := t) rfl, hk] at hBy
      have HBy := hide hBy
      rw [hw] at hB
      obtain rfl : true = B := hB
      have HN := hide hw
      rw [hk] at HE
      have f1 : (X == (t.size : Int)) = true := by simpa using hx
      subst hx
      have hC1 := hide (fun V (h : Below W1.heap.size W1 V) => (HV.out V h).1)
      have hC2 := hide (fun V (h : Below W1.heap.size W1 V) => (HV.out V h).2.2.1)
      have HC0 := hide (show W1.drew.cell? ⟨w.heap.size, 0, none⟩ = some (.int .i64 k) ∧ W1.drew.cell? ⟨w.heap.size, 2, none⟩ = some (.string t) from ⟨d0, d2⟩)
      clear h5 h3 h4 hSl hSs hn hE hX hK hw hX2 ht2 hk ht3 hBt hBy ho hSp
      go_enter Tryd.func37, Tryd.ntmps37
      go_upto_region 1 with fail
      clear hW1
      go_upto_region 22 with (first
        | (go_at_call 26; (with_reducible refine Calls.mono (HE.out _) ?_); rintro e w5 ⟨rfl, rfl⟩))
      go_region_held3 (fun V => V.cell? ⟨w.heap.size, 0, none⟩ = some (.int .i64 k) ∧ V.cell? ⟨w.heap.size, 2, none⟩ = some (.string t)) (first | exact HC0.out | exact HC6.out) (first
        | (go_at_call 27; (with_reducible refine Calls.mono (HBy.out _) ?_); rintro e w6 ⟨rfl, h6⟩; have HB6 := hide (below_trans (below_drew _) h6); have HC6 := hide (And.intro (hC1.out _ HB6.out) (hC2.out _ HB6.out)); clear h6))
      all_goals
        go_wp2
        go_ret2
        exact ⟨_, rfl, fun s hs => by rw [HN.out] at hs; injection hs, HW.out.trans (HB6.out.mono HW.out.size)⟩
    · have hN : wrt k t.data.toList = none := by
        rw [hw]
        refine if_neg fun hh => hk ?_
        rw [ht2] at hh
        have := hh.2
        simp only [Option.some.injEq, Prod.mk.injEq] at this
        omega
      rw [hN] at hB
      obtain rfl : false = B := hB
      have HN := hide hN
      have f1 : ((K : Int) == k) = false := by simpa using hk
      subst hx
      clear h5 h3 h4 hSl hSs hn hE hX hK hw hX2 ht2 hk hN ho hSp
      go_enter Tryd.func37, Tryd.ntmps37
      go_upto_region 1 with fail
      clear hW1
      go_upto_region 22 with (first
        | (go_at_call 26; (with_reducible refine Calls.mono (HE.out _) ?_); rintro e w5 ⟨rfl, rfl⟩))
      go_region
      all_goals
        go_wp2
        go_ret2
        exact ⟨_, rfl, wrtR_none HN.out, below_trans HW.out (below_drew _)⟩
  · have hN : wrt k t.data.toList = none := by
      rw [hw]
      refine if_neg fun hh => hx ?_
      rw [← hX, (tokE_some (a := 0) hh.2).1, ← size_list]
      simp
    rw [hN] at hB
    obtain rfl : false = B := hB
    have HN := hide hN
    have f1 : (X == (t.size : Int)) = false := by simpa using hx
    clear h5 h3 h4 hSl hSs hn hE hX hK hw hx hN ho hSp
    go_enter Tryd.func37, Tryd.ntmps37
    go_upto_region 1 with fail
    clear hW1
    go_upto_region 22 with (first
      | (go_at_call 26; (with_reducible refine Calls.mono (HE.out _) ?_); rintro e w5 ⟨rfl, rfl⟩))
    go_region
    all_goals
      go_wp2
      go_ret2
      exact ⟨_, rfl, wrtR_none HN.out, below_trans HW.out (below_drew _)⟩
set_option maxHeartbeats 4000000 in
set_option maxRecDepth 10000 in
theorem writtenP (a : Int) (t : ByteArray) (ht : t.size ≤ 4000000000000) (w : World) :
    Calls Tryd.prog 37 #[.agg #[.int .i64 5, .int .i64 a, .string t]] w fun e w' => ∃ r, e = .returned (.tuple #[.string r, .bool (wrt 5 t.data.toList).isSome]) ∧ WrtR 5 t.data.toList r ∧ Below w.heap.size w w' := by
  have HV := hide (fun V h => later_block w (.int .i64 5) (.int .i64 a) (.string t) 39 V h)
  obtain ⟨W1, hW1⟩ : ∃ W1, w.alloc (.cells #[.int .i64 5, .int .i64 a, .string t] 39) = W1 := ⟨_, rfl⟩
  have hW1b : Below w.heap.size w W1 := by rw [← hW1]; exact (Below.refl _ _).alloc (Nat.le_refl _) _
  rw [hW1] at HV
  obtain ⟨d0, d1, d2, _⟩ := HV.out W1 (Below.refl _ _)
  have HW := hide hW1b
  clear hW1b
  obtain ⟨B, hB⟩ : ∃ B, (wrt 5 t.data.toList).isSome = B := ⟨_, rfl⟩
  rw [hB]
  obtain ⟨S, hS⟩ : ∃ S : ByteArray, ({ data := #[63] } : ByteArray) ++ t = S := ⟨_, rfl⟩
  have hSl : S.data.toList = bare 5 t.data.toList := by rw [← hS, bare, if_pos rfl, app_list]; rfl
  have hcat : ∀ V, (Op.stringOp BinOp.add { data := #[63] } t).run Tryd.prog V = .ok (.string S) V := fun V => by rw [← hS]; exact run_string_add_sum V _ _ (by show 1 + t.size ≤ _; omega)
  have hSs : S.size ≤ 4000000000001 := by rw [← size_list, hSl, bare, if_pos rfl]; simp; omega
  have hn : S.data.toList ≠ [] := by rw [hSl, bare, if_pos rfl]; simp
  have h3 : (5 : Int) ≠ 3 := by decide
  have h4 : (5 : Int) ≠ 4 := by decide
  have ho : ¬ ((5 : Int) < 1 ∨ (6 : Int) < 5) := by omega
  have hn2 : S.toList.isEmpty = false := by rw [ByteArray.toList_eq]; simpa using hn
  clear hS
  have hSp : 0 < S.size := by
    rcases Nat.eq_zero_or_pos S.size with h | h
    · exact absurd (List.length_eq_zero_iff.1 ((size_list S).trans h)) hn
    · exact h
  have hE := fun V => end_e S (by omega) 0 hSp V
  rw [List.drop_zero] at hE
  obtain ⟨X, hX⟩ : ∃ X, tokE S.data.toList 0 = X := ⟨_, rfl⟩
  obtain ⟨K, hK⟩ : ∃ K, tokK S.data.toList = K := ⟨_, rfl⟩
  rw [hX, hK] at hE
  have HE := hide hE
  have hw : wrt 5 t.data.toList = if (0 : Int) ≤ 5 ∧ tok S.data.toList = some (S.data.toList.length, (5 : Int).toNat) then some S.data.toList else none := by
    unfold wrt
    rw [if_neg h3, if_neg h4, ← hSl]
  by_cases hx : X = (S.size : Int)
  · have hX2 := hX.trans hx
    rw [← size_list] at hX2
    obtain ⟨k2, ht2, hk2⟩ := tokE_len hX2
    rw [hK] at hk2
    subst hk2
    by_cases hk : (K : Int) = 5
    · have ht3 : tok S.data.toList = some (S.data.toList.length, (5 : Int).toNat) := by rw [ht2, show (5 : Int).toNat = K by omega]
      rw [if_pos ⟨by omega, ht3⟩] at hw
      have hBt : tokT S.data.toList K = t.data.toList := by
        have := (wrt_tok (R := []) hw brk_nil).2.1
        rw [show (5 : Int).toNat = K by omega] at this
        exact this
      have hBy := fun V => rbytes_e S (by omega) K (by omega) (by omega) (by omega) V
      rw [hBt, ← ba_eq (s := t) rfl, hk] at hBy
      have HBy := hide hBy
      rw [hw] at hB
      obtain rfl : true = B := hB
      have HN := hide hw
      rw [hk] at HE
      have f1 : (X == (S.size : Int)) = true := by simpa using hx
      subst hx
      have hC1 := hide (fun V (h : Below W1.heap.size W1 V) => (HV.out V h).1)
      have hC2 := hide (fun V (h : Below W1.heap.size W1 V) => (HV.out V h).2.2.1)
      have HC0 := hide (show W1.drew.cell? ⟨w.heap.size, 0, none⟩ = some (.int .i64 5) ∧ W1.drew.cell? ⟨w.heap.size, 2, none⟩ = some (.string t) from ⟨d0, d2⟩)
      clear h3 h4 hSl hSs hn hE hX hK hw hX2 ht2 hk ht3 hBt hBy ho hSp
      go_enter Tryd.func37, Tryd.ntmps37
      go_upto_region 1 with fail
      clear hW1
      go_upto_region 22 with (first
        | (go_at_call 26; (with_reducible refine Calls.mono (HE.out _) ?_); rintro e w5 ⟨rfl, rfl⟩))
      go_region_held3 (fun V => V.cell? ⟨w.heap.size, 0, none⟩ = some (.int .i64 5) ∧ V.cell? ⟨w.heap.size, 2, none⟩ = some (.string t)) (first | exact HC0.out | exact HC6.out) (first
        | (go_at_call 27; (with_reducible refine Calls.mono (HBy.out _) ?_); rintro e w6 ⟨rfl, h6⟩; have HB6 := hide (below_trans (below_drew _) h6); have HC6 := hide (And.intro (hC1.out _ HB6.out) (hC2.out _ HB6.out)); clear h6))
      all_goals
        go_wp2
        go_ret2
        exact ⟨_, rfl, fun s hs => by rw [HN.out] at hs; injection hs, HW.out.trans (HB6.out.mono HW.out.size)⟩
    · have hN : wrt 5 t.data.toList = none := by
        rw [hw]
        refine if_neg fun hh => hk ?_
        rw [ht2] at hh
        have := hh.2
        simp only [Option.some.injEq, Prod.mk.injEq] at this
        omega
      rw [hN] at hB
      obtain rfl : false = B := hB
      have HN := hide hN
      have f1 : ((K : Int) == 5) = false := by simpa using hk
      subst hx
      clear h3 h4 hSl hSs hn hE hX hK hw hX2 ht2 hk hN ho hSp
      go_enter Tryd.func37, Tryd.ntmps37
      go_upto_region 1 with fail
      clear hW1
      go_upto_region 22 with (first
        | (go_at_call 26; (with_reducible refine Calls.mono (HE.out _) ?_); rintro e w5 ⟨rfl, rfl⟩))
      go_region
      all_goals
        go_wp2
        go_ret2
        exact ⟨_, rfl, wrtR_none HN.out, below_trans HW.out (below_drew _)⟩
  · have hN : wrt 5 t.data.toList = none := by
      rw [hw]
      refine if_neg fun hh => hx ?_
      rw [← hX, (tokE_some (a := 0) hh.2).1, ← size_list]
      simp
    rw [hN] at hB
    obtain rfl : false = B := hB
    have HN := hide hN
    have f1 : (X == (S.size : Int)) = false := by simpa using hx
    clear h3 h4 hSl hSs hn hE hX hK hw hx hN ho hSp
    go_enter Tryd.func37, Tryd.ntmps37
    go_upto_region 1 with fail
    clear hW1
    go_upto_region 22 with (first
      | (go_at_call 26; (with_reducible refine Calls.mono (HE.out _) ?_); rintro e w5 ⟨rfl, rfl⟩))
    go_region
    all_goals
      go_wp2
      go_ret2
      exact ⟨_, rfl, wrtR_none HN.out, below_trans HW.out (below_drew _)⟩
end Go.Proofs.YtkooijhdjjdigaaDoor
