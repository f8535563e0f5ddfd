/- The program's own first: the token that stands at a text's beginning. -/
import Derived.Test.YtkooijhdjjdigaaDoorCJ
namespace Go.Proofs.YtkooijhdjjdigaaDoor
open Go.ChangeShapes Go.WideShapes Go.ChangeAt Go.RowKit Go.Shelf
set_option linter.unusedVariables false

theorem inner_eq (l : List UInt8) (n j : Nat) (h : n ≤ l.length) : ((l.take n).dropLast).drop j = (l.drop j).take (n - 1 - j) := by
  rw [List.dropLast_eq_take, List.length_take, Nat.min_eq_left h, List.take_take, Nat.min_eq_left (by omega), List.drop_take]
theorem tok_in3 {l : List UInt8} {n : Nat} (h : tok l = some (n, 3)) : ∃ u, unq ((l.take n).dropLast.drop 1) = some u := by
  have hle := tok_le l n 3 h
  rw [inner_eq l n 1 hle.2]
  cases l with
  | nil => simp [tok] at h
  | cons c r =>
    rw [tok] at h
    split at h
    · cases hq : quo r with
      | none => rw [hq] at h; simp at h
      | some m =>
        rw [hq] at h
        obtain rfl : m + 1 = n := by simpa using h
        obtain ⟨u, hu⟩ := quo_unq r m hq
        exact ⟨u, by rw [List.drop_succ_cons, List.drop_zero, show m + 1 - 1 - 1 = m - 1 by omega]; exact hu⟩
    split at h
    · cases hb : blo false r.tail with
      | none => rw [hb] at h; simp at h
      | some m => rw [hb] at h; simp at h
    all_goals
      exfalso
      repeat' split at h
      all_goals simp at h
theorem tok_in4 {l : List UInt8} {n : Nat} (h : tok l = some (n, 4)) : (∀ c ∈ (l.take n).dropLast.drop 2, hexB c = true) ∧ ((l.take n).dropLast.drop 2).length % 2 = 0 := by
  have hle := tok_le l n 4 h
  rw [inner_eq l n 2 hle.2]
  cases l with
  | nil => simp [tok] at h
  | cons c r =>
    rw [tok] at h
    split at h
    · cases hq : quo r with
      | none => rw [hq] at h; simp at h
      | some m => rw [hq] at h; simp at h
    split at h
    · cases hb : blo false r.tail with
      | none => rw [hb] at h; simp at h
      | some m =>
        rw [hb] at h
        obtain rfl : m + 2 = n := by simpa using h
        have hx := blo_hex hb
        rw [List.drop_succ_cons, show m + 2 - 1 - 2 = m - 1 by omega]
        rw [show r.drop 1 = r.tail from by cases r <;> rfl]
        exact hx
    all_goals
      exfalso
      repeat' split at h
      all_goals simp at h
def tgA (k a : Int) (s : ByteArray) : Array Value := #[.int .i64 k, .int .i64 a, .string s]
theorem tgA_one (k a : Int) (s : ByteArray) : (tgA k a s).all (·.oneCell') = true := all_oneCell_toArray (cs := [Value.int .i64 k, .int .i64 a, .string s]) (by intro v hv; simp at hv; rcases hv with rfl | rfl | rfl <;> rfl)
theorem tgA_size (k a : Int) (s : ByteArray) : (Tryd.prog.info? 39).map (·.size) = some (tgA k a s).size := (show (Tryd.prog.info? 39).map (·.size) = some 3 by kernel_rfl)
theorem uTg : ∃ d, Tryd.prog.underlying 39 = some d ∧ d.isRow = true := ⟨_, Tryd.underlying39, rfl⟩
set_option maxRecDepth 20000 in
theorem first_e (s : ByteArray) (hs : s.size ≤ 4294967280) (h1 : 0 < s.size) (w : World) (hE : Env w) :
    Calls Tryd.prog 40 #[.string s] w fun e w' => e = .returned (fstV s.data.toList) ∧ Below w.heap.size w w' := by
  have hlen : s.data.toList.length = s.size := by simp
  have hts : tok s.data.toList = if siz (bgn s.data.toList) s.data.toList = 0 then none else some (siz (bgn s.data.toList) s.data.toList, bgn s.data.toList) := by
    cases hl : s.data.toList with
    | nil => rw [hl] at hlen; simp at hlen; omega
    | cons c r => exact tok_siz c r
  have hk := bgn_le s.data.toList
  have h4 : bgn s.data.toList = 4 → 2 ≤ s.size := by
    intro h
    rw [← hlen]
    cases hl : s.data.toList with
    | nil => rw [hl] at h; simp [bgn] at h
    | cons c r =>
      cases r with
      | nil =>
        exfalso
        rw [hl] at h
        simp only [bgn, List.head?_nil, Option.map_none, reduceCtorEq, and_false, if_false] at h
        repeat' split at h
        all_goals omega
      | cons d r => simp
  have HB := hide (begun_e s (by omega) h1)
  have HO := hide (sizeof_e _ hk)
  have HZ := hide (size_e _ hk s (by omega) (fun _ => h1) h4 (fun _ => h1))
  have HL := hide (leads_size _ hk)
  have hle : ∀ n k, tok s.data.toList = some (n, k) → n ≤ s.size ∧ 0 < n := fun n k h => by
    have := tok_le _ _ _ h; rw [hlen] at this; exact ⟨this.2, this.1⟩
  have hext : ∀ n, (s.extract 0 n).data.toList = s.data.toList.take n := fun n => by rw [ext_list]; rfl
  have HM : ∀ n k, tok s.data.toList = some (n, k) → ∀ V, Env V → Calls Tryd.prog 66 #[.int .i64 (k : Int), .string (s.extract 0 n)] V fun e w' => e = .returned (.string ⟨(tokT (s.data.toList.take n) k).toArray⟩) ∧ Below V.heap.size V w' := fun n k h V hV => by
    have hn := hle n k h
    have hz : (s.extract 0 n).size = n := by simp; omega
    have hkd : (k = 3 → 2 ≤ n) ∧ (k = 4 → 3 ≤ n) := by
      cases hl : s.data.toList with
      | nil => rw [hl] at h; simp [tok] at h
      | cons c r => rw [hl] at h; exact (tok_kind h).2.2
    have := meant_e k (s.extract 0 n) (by omega) (fun e => ⟨by rw [hz]; exact hkd.1 e, by rw [hext]; subst e; exact tok_in3 h⟩) (fun e => ⟨by rw [hz]; exact hkd.2 e, by rw [hext]; subst e; exact tok_in4 h⟩) (fun _ => by omega) V hV
    rw [hext] at this
    exact this
  unfold fstV
  generalize siz (bgn s.data.toList) s.data.toList = n at *
  generalize bgn s.data.toList = k at *
  have HE : Hid (∀ V, Below w.heap.size w V → Env V) := fun V hV => hE.below hV
  by_cases hn0 : n = 0
  · rw [if_pos hn0] at hts
    rw [hts]
    subst hn0
    clear HM hle hext hE h4 hts hlen
    have HI0 := hide (tgA_size 0 0 ⟨#[]⟩)
    have HK0 : Hid (Blk (w.alloc (.cells #[.int .i64 0, .int .i64 0, .string ⟨#[]⟩] 39)) w.heap.size (tgA 0 0 ⟨#[]⟩) 39) := Blk.new w _ _
    have HB0 := hide (below_alloc w (.cells #[.int .i64 0, .int .i64 0, .string ⟨#[]⟩] 39))
    go_enter Tryd.func40, Tryd.ntmps40
    go_wp2_with (first
      | (go_at_call 65; (with_reducible refine Calls.mono (HB.out _) ?_); rintro e w5 ⟨rfl, rfl⟩)
      | (go_at_call 49; (with_reducible refine Calls.mono (HO.out _) ?_); rintro e w5 ⟨rfl, rfl⟩))
    rw [HL.out]
    refine Calls.mono (HZ.out _) ?_
    rintro e w5 ⟨rfl, rfl⟩
    go_wp2_with (first
      | ((with_reducible refine atSt 39 ?_); refine wp_storeB (c := tgA 0 0 ⟨#[]⟩) HI0.out rfl (tgA_one _ _ _) HK0.out _ _ (by rfl) (by rfl) (by rfl) (by rfl) ?_; intro W6 hb6 ho6; have HK6 := hide hb6; have HB6 := hide (below_only1 HB0.out ho6 (Nat.le_refl _)); clear hb6 ho6))
    refine ret_blk2 (c := tgA 0 0 ⟨#[]⟩) HI0.out uTg Tryd.results40 (by rfl) (by rfl) HK6.out ?_
    exact ⟨rfl, HB6.out⟩
  · rw [if_neg hn0] at hts
    rw [hts]
    have hz := hle n k hts
    have HM := hide (HM n k hts)
    show Calls _ _ _ _ fun e w' => e = .returned (.tuple #[.agg #[.int .i64 (k : Int), .int .i64 0, .string ⟨(tokT (s.data.toList.take n) k).toArray⟩], .int .i64 (n : Int)]) ∧ Below w.heap.size w w'
    generalize tokT (s.data.toList.take n) k = T at *
    have l0 : (0 : Int) ≤ (n : Int) := by omega
    have l1 : (n : Int) ≤ (s.size : Int) := by omega
    have e0 : ((n : Int) == 0) = false := by simp; omega
    clear hle hext hE h4 hts hlen
    have HI0 := hide (tgA_size k 0 ⟨T.toArray⟩)
    have HK0 : Hid (Blk (w.alloc (.cells #[.int .i64 0, .int .i64 0, .string ⟨#[]⟩] 39)) w.heap.size (tgA 0 0 ⟨#[]⟩) 39) := Blk.new w _ _
    have HB0 := hide (below_alloc w (.cells #[.int .i64 0, .int .i64 0, .string ⟨#[]⟩] 39))
    go_enter Tryd.func40, Tryd.ntmps40
    go_wp2_with (first
      | (go_at_call 65; (with_reducible refine Calls.mono (HB.out _) ?_); rintro e w5 ⟨rfl, rfl⟩)
      | (go_at_call 49; (with_reducible refine Calls.mono (HO.out _) ?_); rintro e w5 ⟨rfl, rfl⟩))
    rw [HL.out]
    refine Calls.mono (HZ.out _) ?_
    rintro e w5 ⟨rfl, rfl⟩
    go_wp2_with (first
      | (go_at_call 66; (with_reducible refine Calls.mono (HM.out _ (HE.out _ HB0.out)) ?_); rintro e w5 ⟨rfl, hb⟩; have HK5 := hide (Blk.later HK0.out hb); have HB5 := hide (below_trans HB0.out hb); clear hb)
      | ((with_reducible refine atSt 39 ?_); refine wp_storeB (c := tgA k 0 ⟨T.toArray⟩) (z := tgA 0 0 ⟨#[]⟩) HI0.out rfl (tgA_one _ _ _) HK5.out _ _ (by rfl) (by rfl) (by rfl) (by rfl) ?_; intro W6 hb6 ho6; have HK6 := hide hb6; have HB6 := hide (below_only1 HB5.out ho6 (Nat.le_refl _)); clear hb6 ho6))
    refine ret_blk2 (c := tgA k 0 ⟨T.toArray⟩) HI0.out uTg Tryd.results40 (by rfl) (by rfl) HK6.out ?_
    exact ⟨rfl, HB6.out⟩
end Go.Proofs.YtkooijhdjjdigaaDoor
