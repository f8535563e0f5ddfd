/- Plain: a text that goes on; tokens that were read can be written. Of no program. -/
import Derived.Test.YtkooijhdjjdigaaDoorKU
import Derived.Test.YtkooijhdjjdigaaDoorKO
import Derived.Test.YtkooijhdjjdigaaDoorKJ
namespace Go.Proofs.YtkooijhdjjdigaaDoor
open Go.ChangeShapes Go.WideShapes Go.ChangeAt Go.RowKit
set_option linter.unusedVariables false

theorem quo_more : ∀ (l X : List UInt8) (n : Nat), quo l = some n → n < l.length → quo (l ++ X) = some n
  | [], X, n, h, _ => by simp [quo] at h
  | [c], X, n, h, hn => by
    have := quo_le _ _ h
    simp at hn this; omega
  | c :: d :: r, X, n, h, hn => by
    rw [quo] at h
    show quo (c :: d :: (r ++ X)) = some n
    rw [quo]
    split at h
    · rename_i hc
      rw [if_pos hc]
      split at h
      · rename_i hd
        rw [if_pos hd]
        cases hq : quo r with
        | none => rw [hq] at h; simp at h
        | some m =>
          rw [hq] at h
          simp at h
          rw [quo_more r X m hq (by simp at hn; omega)]
          simpa using h
      · rename_i hd
        rw [if_neg hd]; exact h
    · rename_i hc
      rw [if_neg hc]
      cases hq : quo (d :: r) with
      | none => rw [hq] at h; simp at h
      | some m =>
        rw [hq] at h
        simp at h
        have := quo_more (d :: r) X m hq (by simp at hn ⊢; omega)
        rw [List.cons_append] at this
        rw [this]
        simpa using h
theorem blo_more : ∀ (l X : List UInt8) (b : Bool) (n : Nat), blo b l = some n → blo b (l ++ X) = some n
  | [], X, b, n, h => by simp [blo] at h
  | c :: r, X, b, n, h => by
    rw [blo] at h
    rw [List.cons_append, blo]
    split at h
    · rename_i hc
      rw [if_pos hc]; exact h
    · rename_i hc
      rw [if_neg hc]
      split at h
      · rename_i hx
        rw [if_pos hx]
        cases hq : blo (!b) r with
        | none => rw [hq] at h; simp at h
        | some m => rw [hq] at h; rw [blo_more r X (!b) m hq]; exact h
      · simp at h
theorem wrd_more : ∀ (l X : List UInt8), wrd l < l.length → wrd (l ++ X) = wrd l
  | [], X, h => by simp at h
  | c :: r, X, h => by
    rw [List.cons_append, wrd_cons, wrd_cons]
    rw [wrd_cons] at h
    split
    · rename_i hc
      rw [if_pos hc] at h
      rw [wrd_more r X (by simp at h; omega)]
    · rfl
theorem dgs_more : ∀ (l X : List UInt8), dgs l < l.length → dgs (l ++ X) = dgs l
  | [], X, h => by simp at h
  | c :: r, X, h => by
    rw [List.cons_append, dgs_cons, dgs_cons]
    rw [dgs_cons] at h
    split
    · rename_i hc
      rw [if_pos hc] at h
      rw [dgs_more r X (by simp at h; omega)]
    · rfl
theorem head_more {r X : List UInt8} (h : r ≠ []) : (r ++ X).head? = r.head? := by cases r with | nil => exact absurd rfl h | cons c r => rfl
theorem tok_more {l X : List UInt8} {n k : Nat} (h : tok l = some (n, k)) (hn : n < l.length) : tok (l ++ X) = some (n, k) := by
  cases l with
  | nil => simp [tok] at h
  | cons c r =>
    have hr : r ≠ [] := by
      rintro rfl
      have := tok_le _ _ _ h
      simp at hn
      omega
    have hd := head_more (X := X) hr
    obtain ⟨d, r2, rfl⟩ : ∃ d r2, r = d :: r2 := by cases r with | nil => exact absurd rfl hr | cons d r => exact ⟨d, r, rfl⟩
    rw [tok] at h
    rw [List.cons_append, tok, hd]
    split at h
    · rename_i h39
      rw [if_pos h39]
      cases hq : quo (d :: r2) with
      | none => rw [hq] at h; simp at h
      | some m =>
        rw [hq] at h
        rw [quo_more _ X m hq (by simp at h hn ⊢; omega)]
        exact h
    rename_i h39
    rw [if_neg h39]
    split at h
    · rename_i hx
      rw [if_pos hx]
      cases hq : blo false (d :: r2).tail with
      | none => rw [hq] at h; simp at h
      | some m =>
        rw [hq] at h
        have := blo_more _ X _ m hq
        rw [List.cons_append, List.tail_cons]
        rw [List.tail_cons] at this
        rw [this]; exact h
    rename_i hx
    rw [if_neg hx]
    split at h
    · rename_i hl
      rw [if_pos hl]
      simp only [Option.some.injEq, Prod.mk.injEq] at h
      rw [wrd_more _ X (by have := h.1; simp only [List.length_cons] at hn ⊢; omega)]
      simp only [Option.some.injEq, Prod.mk.injEq]; exact h
    rename_i hl
    rw [if_neg hl]
    split at h
    · rename_i hl2
      rw [if_pos hl2]
      simp only [Option.some.injEq, Prod.mk.injEq] at h
      rw [dgs_more _ X (by have := h.1; simp only [List.length_cons] at hn ⊢; omega)]
      simp only [Option.some.injEq, Prod.mk.injEq]; exact h
    rename_i hl2
    rw [if_neg hl2]
    split at h
    · rename_i hl3
      rw [if_pos hl3]
      simp only [Option.some.injEq, Prod.mk.injEq] at h
      rw [dgs_more _ X (by have := h.1; simp only [List.length_cons] at hn ⊢; omega)]
      simp only [Option.some.injEq, Prod.mk.injEq]; exact h
    rename_i hl3
    rw [if_neg hl3]
    exact h
theorem skp_more : ∀ (l X : List UInt8) (b : Bool), (X.head?.map UInt8.toNat) ≠ some 45 → skp b l < l.length → skp b (l ++ X) = skp b l
  | [], X, b, hX, h => by simp at h
  | c :: r, X, true, hX, h => by
    rw [skp] at h
    rw [List.cons_append, skp, skp]
    split
    · rename_i hc
      rw [if_pos hc] at h
      rw [skp_more r X false hX (by simp at h; omega)]
    · rename_i hc
      rw [if_neg hc] at h
      rw [skp_more r X true hX (by simp at h; omega)]
  | c :: r, X, false, hX, h => by
    rw [List.cons_append]
    by_cases hb : blkB c = true
    · rw [skp_blk hb] at h ⊢
      rw [skp_more r X false hX (by simp at h; omega), skp_blk hb]
    · rw [Bool.not_eq_true] at hb
      by_cases hc : c.toNat = 45 ∧ (r.head?.map UInt8.toNat) = some 45
      · have hr : r ≠ [] := by rintro rfl; simp at hc
        rw [skp_rem' hb hc] at h ⊢
        rw [skp_rem' hb (by rw [head_more hr]; exact hc), skp_more r X true hX (by simp at h; omega)]
      · rw [skp_not hb hc]
        cases r with
        | nil => exact skp_not hb (fun h => hX h.2)
        | cons d r => exact skp_not hb (by simpa using hc)
theorem toks_place : ∀ (f : Nat) (l : List UInt8) (a : Nat), (toks f l a).2.2 = -1 ∨ ((a : Nat) : Int) ≤ (toks f l a).2.2
  | 0, l, a => .inl rfl
  | f + 1, [], a => .inl (by rw [toks_nil])
  | f + 1, c :: r, a => by
    cases ht : tok (c :: r) with
    | none => rw [toks_bad ht]; exact .inr (Int.le_refl _)
    | some nk =>
      obtain ⟨n, k⟩ := nk
      rw [toks_ok ht]
      rcases toks_place f ((c :: r).drop (n + skp false ((c :: r).drop n))) (a + n + skp false ((c :: r).drop n)) with h | h
      · exact .inl h
      · exact .inr (Int.le_trans (by omega) h)
/-- A place that is wrong is come to again where the text goes on. -/
theorem toks_more : ∀ (f : Nat) (l X : List UInt8) (a : Nat), (X.head?.map UInt8.toNat) ≠ some 45 → 0 ≤ (toks f l a).2.2 → ∃ q, q < l.length ∧ tok (l.drop q) = none ∧ (toks f l a).2.2 = ((a + q : Nat) : Int) ∧ ∀ f2, l.length < f2 → ∃ f3, (toks f2 (l ++ X) a).2.2 = (toks (f3 + 1) (l.drop q ++ X) (a + q)).2.2
  | 0, l, X, a, hX, h => by simp [toks] at h
  | f + 1, [], X, a, hX, h => by rw [toks_nil] at h; simp at h
  | f + 1, c :: r, X, a, hX, h => by
    cases ht : tok (c :: r) with
    | none =>
      rw [toks_bad ht]
      exact ⟨0, by simp, ht, rfl, fun f2 hf => ⟨f2 - 1, by rw [List.drop_zero, show f2 - 1 + 1 = f2 by omega]; rfl⟩⟩
    | some nk =>
      obtain ⟨n, k⟩ := nk
      have hle := tok_le _ _ _ ht
      rw [toks_ok ht] at h ⊢
      obtain ⟨m, hm⟩ : ∃ m, skp false ((c :: r).drop n) = m := ⟨_, rfl⟩
      rw [hm] at h ⊢
      have hsl := skp_le false ((c :: r).drop n)
      rw [hm, List.length_drop] at hsl
      obtain ⟨q, hq, htq, he, hf⟩ := toks_more f ((c :: r).drop (n + m)) X (a + n + m) hX h
      rw [List.length_drop] at hq
      have hmn : m < ((c :: r).drop n).length := by rw [List.length_drop]; omega
      have hX1 : tok ((c :: r) ++ X) = some (n, k) := tok_more ht (by omega)
      have hX2 : skp false (((c :: r) ++ X).drop n) = m := by
        rw [List.drop_append_of_le_length hle.2, skp_more _ X false hX (by rw [hm]; exact hmn), hm]
      refine ⟨n + m + q, by omega, by rw [← List.drop_drop]; exact htq, by show (toks f _ _).2.2 = _; rw [he]; congr 1; omega, fun f2 hf2 => ?_⟩
      obtain ⟨f2, rfl⟩ : ∃ g, f2 = g + 1 := ⟨f2 - 1, by omega⟩
      obtain ⟨f3, h3⟩ := hf f2 (by rw [List.length_drop]; simp at hf2 ⊢; omega)
      refine ⟨f3, ?_⟩
      rw [toks_step hX1, hX2, List.drop_append_of_le_length (by omega)]
      show (toks f2 _ _).2.2 = _
      rw [h3, List.drop_drop, show a + n + m + q = a + (n + m + q) by omega]
theorem tok_open {c : UInt8} {r X : List UInt8} {n k : Nat} (h : tok (c :: r) = none) (hX : X.head? = some 10) (h2 : tok (c :: r ++ X) = some (n, k)) : c = 39 ∨ c = 120 ∨ c = 88 := by
  by_cases h39 : c.toNat = 39
  · exact .inl (UInt8.toNat_inj.1 h39)
  by_cases hx : c.toNat = 120 ∨ c.toNat = 88
  · rcases hx with hx | hx
    · exact .inr (.inl (UInt8.toNat_inj.1 hx))
    · exact .inr (.inr (UInt8.toNat_inj.1 hx))
  exfalso
  rw [tok, if_neg h39, if_neg (fun e => hx e.1)] at h
  rw [List.cons_append, tok, if_neg h39, if_neg (fun e => hx e.1)] at h2
  split at h
  · simp at h
  rename_i a1
  rw [if_neg a1] at h2
  split at h
  · simp at h
  rename_i a2
  rw [if_neg a2] at h2
  split at h
  · simp at h
  rename_i a3
  rw [if_neg a3] at h2
  split at h
  · simp at h
  rename_i a4
  split at h
  · simp at h
  rename_i a5
  have a6 : ¬ ((r ++ X).head?.map (paiB c)).getD false = true := by
    cases r with
    | nil => rw [List.nil_append, hX]; simp [paiB]
    | cons d r => exact a4
  rw [if_neg a6, if_neg a5] at h2
  simp at h2
/-- Where a text or a blob may begin. -/
def opn (s : List UInt8) (q : Nat) : Prop := ∃ c, s[q]? = some c ∧ (c = 39 ∨ c = 120 ∨ c = 88)
theorem betw_bad (s more : List UInt8) (h : (scanR s).2.2 ≠ 0) (hl : s.length + more.length ≤ 1992) : ∃ q : Nat, (scanR s).1 = [] ∧ (scanR s).2.1 = (q : Int) ∧ (scanR s).2.2 = 250 ∧ q < s.length ∧
    ((scanR (s ++ 10 :: 59 :: more)).2.2 = 250 ∧ (scanR (s ++ 10 :: 59 :: more)).1 = [] ∧ ((scanR (s ++ 10 :: 59 :: more)).2.1 = (q : Int) ∨ (q : Int) < (scanR (s ++ 10 :: 59 :: more)).2.1 ∧ opn s q) ∨ (scanR (s ++ 10 :: 59 :: more)).2.2 = 0 ∧ opn s q) := by
  have hlen : ¬ 2000 < s.length := by omega
  have hlen2 : ¬ 2000 < (s ++ 10 :: 59 :: more).length := by simp; omega
  by_cases h0 : 0 ≤ (toksS s).2.2
  · have e1 : scanR s = ([], (toksS s).2.2, 250) := by rw [scanR, if_neg hlen, if_pos h0]
    obtain ⟨X, hX⟩ : ∃ X, (10 :: 59 :: more : List UInt8) = X := ⟨_, rfl⟩
    rw [hX] at hlen2 ⊢
    have hX1 : X.head? = some 10 := by rw [← hX]; rfl
    have hX2 : (X.head?.map UInt8.toNat) ≠ some 45 := by rw [hX1]; decide
    obtain ⟨m, hm⟩ : ∃ m, skp false s = m := ⟨_, rfl⟩
    have hsl := skp_le false s
    have h1 := h0
    unfold toksS at h1
    rw [hm] at h1 hsl
    obtain ⟨q, hq, htq, he, hf⟩ := toks_more _ _ X _ hX2 h1
    rw [List.length_drop] at hq
    have hskp : skp false (s ++ X) = m := by rw [skp_more s X false hX2 (by omega), hm]
    obtain ⟨f3, h3⟩ := hf ((s ++ X).length + 1) (by rw [List.length_drop]; simp; omega)
    have hq1 : (toksS s).2.2 = ((m + q : Nat) : Int) := by unfold toksS; rw [hm]; exact he
    have hq2 : (toksS (s ++ X)).2.2 = (toks (f3 + 1) ((s.drop m).drop q ++ X) (m + q)).2.2 := by
      unfold toksS; rw [hskp, List.drop_append_of_le_length (by omega)]; exact h3
    rw [List.drop_drop] at htq hq2
    refine ⟨m + q, by rw [e1], by rw [e1]; exact hq1, by rw [e1], by omega, ?_⟩
    obtain ⟨c, hc⟩ : ∃ c, s[m + q]? = some c := ⟨_, List.getElem?_eq_getElem (by omega)⟩
    obtain ⟨_, hlt⟩ := List.getElem?_eq_some_iff.1 hc
    have hd : s.drop (m + q) = c :: s.drop (m + q + 1) := by rw [List.drop_eq_getElem_cons (by omega), hlt]
    rw [hd] at htq hq2
    cases ht : tok (c :: s.drop (m + q + 1) ++ X) with
    | none =>
      rw [List.cons_append] at ht hq2
      rw [toks_bad ht] at hq2
      left
      have e2 : scanR (s ++ X) = ([], (toksS (s ++ X)).2.2, 250) := by rw [scanR, if_neg hlen2, if_pos (by rw [hq2]; simp; omega)]
      rw [e2]
      exact ⟨rfl, rfl, .inl hq2⟩
    | some nk =>
      obtain ⟨n, k⟩ := nk
      have ho : opn s (m + q) := ⟨c, hc, tok_open htq hX1 ht⟩
      have hn := tok_le _ _ _ ht
      rw [toks_step ht] at hq2
      simp only at hq2
      by_cases h5 : 0 ≤ (toksS (s ++ X)).2.2
      · left
        have e2 : scanR (s ++ X) = ([], (toksS (s ++ X)).2.2, 250) := by rw [scanR, if_neg hlen2, if_pos h5]
        rw [e2]
        refine ⟨rfl, rfl, .inr ⟨?_, ho⟩⟩
        show _ < (toksS (s ++ X)).2.2
        rw [hq2] at h5 ⊢
        have := toks_place f3 ((c :: s.drop (m + q + 1) ++ X).drop (n + skp false ((c :: s.drop (m + q + 1) ++ X).drop n))) (m + q + n + skp false ((c :: s.drop (m + q + 1) ++ X).drop n))
        omega
      · right
        have e2 : scanR (s ++ X) = ((toksS (s ++ X)).1, 0, 0) := by rw [scanR, if_neg hlen2, if_neg h5]
        rw [e2]
        exact ⟨rfl, ho⟩
  · exfalso
    rw [scanR, if_neg hlen, if_neg h0] at h
    exact h rfl
end Go.Proofs.YtkooijhdjjdigaaDoor
