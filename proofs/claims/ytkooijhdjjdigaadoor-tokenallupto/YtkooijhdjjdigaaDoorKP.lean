/- The document's Split: the walk. -/
import Derived.Test.YtkooijhdjjdigaaDoorKO
namespace Go.Proofs.YtkooijhdjjdigaaDoor
open Go.ChangeShapes Go.WideShapes Go.ChangeAt Go.RowKit
set_option linter.unusedVariables false

theorem cur_none {T : List Tk} {E : List Nat} {i : Nat} : cur T E i i = none := by simp [cur]
theorem cur_some {T : List Tk} {E : List Nat} {f i : Nat} {t : Tk} {e : Nat} (h : f < i) (ht : T[f]? = some t) (he : E[i - 1]? = some e) : cur T E f i = some (t.a, e) := by simp [cur, h, ht, he]
theorem cur_next {T : List Tk} {E : List Nat} {f i : Nat} {t : Tk} {e : Nat} (hf : f ≤ i) (ht : T[i]? = some t) (he : E[i]? = some e) : cur T E f (i + 1) = some (((cur T E f i).map (·.1)).getD t.a, e) := by
  by_cases h : f < i
  · simp [cur, h, he, show f < i + 1 by omega]
  · obtain rfl : f = i := by omega
    simp [cur, ht, he]
theorem own_base {w : World} {base base2 e size n : Nat} {v : Value} {xs : List Value} (h : w.ownsRow base e size v n xs) (hb : base2 ≤ base) : w.ownsRow base2 e size v n xs := by
  refine ⟨h.1, ?_⟩
  rcases h.2 with hn | ⟨g, cap, cur, hv, hbg, rest⟩
  · exact .inl hn
  · exact .inr ⟨g, cap, cur, hv, Nat.le_trans hb hbg, rest⟩
theorem spl_none {L : List UInt8} {c : Option (Nat × Nat)} : spl L c [] [] = pce L c := by cases c <;> rfl
theorem spl_sep {L : List UInt8} {c : Option (Nat × Nat)} {t : Tk} {T : List Tk} {e : Nat} {E : List Nat} (h : t.k = 6 ∧ t.t = [59]) : spl L c (t :: T) (e :: E) = pce L c ++ spl L none T E := by rw [spl, if_pos h]
theorem spl_on {L : List UInt8} {c : Option (Nat × Nat)} {t : Tk} {T : List Tk} {e : Nat} {E : List Nat} (h : ¬ (t.k = 6 ∧ t.t = [59])) : spl L c (t :: T) (e :: E) = spl L (some ((c.map (·.1)).getD t.a, e)) T E := by rw [spl, if_neg h]
set_option maxHeartbeats 4000000 in
set_option maxRecDepth 10000 in
theorem rsplit_e (s : ByteArray) (hs : s.size ≤ 4000000000000) (w : World) :
    Calls Tryd.prog 22 #[.string s] w fun e w' => ∃ v, e = .returned (.tuple #[v, .int .i64 (splitR s.data.toList).2]) ∧ w'.ownsRow w.heap.size 9 1 v (splitR s.data.toList).1.length (stL (splitR s.data.toList).1) ∧ Below w.heap.size w w' := by
  have hlen : s.data.toList.length = s.size := by simp
  obtain ⟨R, hR⟩ : ∃ R, splitR s.data.toList = R := ⟨_, rfl⟩
  rw [hR]
  unfold splitR at hR
  have hrise := toksS_rise s.data.toList
  rw [hlen] at hrise
  have HT := hide (tokens_e s hs w)
  obtain ⟨T, E, b, hT⟩ : ∃ T E b, toksS s.data.toList = (T, E, b) := ⟨_, _, _, rfl⟩
  rw [hT] at hR HT hrise
  have hEL : E.length = T.length := hrise.len
  simp only at hR HT hrise
  have hTs : T.length ≤ s.size := by rcases hrise.few with h | h <;> omega
  by_cases h0 : 0 ≤ b
  · rw [if_pos h0] at hR
    have HR := hide hR
    clear hR hT hrise hEL hTs
    go_enter Tryd.func22, Tryd.ntmps22
    go_wp2_with (first
      | (go_at_call 13; (with_reducible refine Calls.mono HT.out ?_); rintro e w5 ⟨v1, v2, rfl, h1, h2, h3⟩; have HB := hide h3; clear h1 h2 h3))
    go_returns
    rw [← HR.out]
    exact ⟨_, rfl, World.ownsRow_nil _ _ _ _, HB.out⟩
  rw [if_neg h0] at hR
  have HR := hide hR
  have HRise := hide hrise
  have HEL := hide hEL
  obtain ⟨i0, hi0, hi1, hi2, hi3⟩ := strInfo
  clear hR hT hrise hEL
  go_enter Tryd.func22, Tryd.ntmps22
  go_upto_region 7 with (first
    | (go_at_call 13; (with_reducible refine Calls.mono HT.out ?_); rintro e w5 ⟨v1, v2, rfl, h1, h2, h3⟩; obtain ⟨p1, c1, rfl, q1⟩ := tkAt_own h1; obtain ⟨p2, c2, rfl, q2⟩ := inAt_own h2; have HQ1 := hide q1; have HQ2 := hide q2; have HB := hide h3; have HS := hide h3.size; clear h1 h2 h3 q1 q2))
  have HB5i := hide (Below.refl w5.heap.size w5)
  go_loopw [7, 8, 9] (fun ov fv iv wr => ∃ (i f : Nat) (O : List (List UInt8)), f ≤ i ∧ fv = .int .i64 (f : Int) ∧ iv = .int .i64 (i : Int) ∧ wr.ownsRow w5.heap.size 9 1 ov O.length (stL O) ∧ (i ≤ T.length ∧ R.1 = O ++ spl s.data.toList (cur T E f i) (T.drop i) (E.drop i) ∨ i = T.length + 1 ∧ f = i ∧ R.1 = O) ∧ O.length ≤ i ∧ Below w5.heap.size w5 wr) (fun _ _ iv _ => T.length + 1 - (intOf iv).toNat)
  case atStart => exact ⟨0, 0, [], Nat.le_refl _, rfl, rfl, World.ownsRow_nil _ _ _ _, .inl ⟨Nat.zero_le _, by rw [← HR.out, cur_none]; rfl⟩, by simp, Below.refl _ _⟩
  case round =>
    obtain ⟨i, f, O, hfi, rfl, rfl, hoT, hrel, hOi, hbel⟩ := hrel
    have HO := hide hoT
    have HB5 := hide hbel
    have HS5 := hide hbel.size
    clear hoT hbel
    rcases hrel with ⟨hi, hrel⟩ | ⟨hi, hf, hrel⟩
    · have l1 : (i : Int) ≤ (T.length : Int) := by omega
      have l0 : (0 : Int) ≤ (i : Int) := by omega
      have hw1 : IntKind.i64.wrap ((i : Int) + 1) = ((i + 1 : Nat) : Int) := by rw [IntKind.wrap_i64]; omega
      by_cases hlt : i < T.length
      · have l2 : (i : Int) < (T.length : Int) := by omega
        obtain ⟨t, ht, hdt⟩ := get_some hlt
        obtain ⟨e, he, hde⟩ := get_some (l := E) (i := i) (by have := HEL.out; omega)
        obtain ⟨g1, rfl, hc1⟩ := HQ1.out (by omega)
        obtain ⟨k1, k2, k3⟩ := hc1 wr HB5.out i t ht
        rw [hdt, hde] at hrel
        obtain ⟨tk, ta0, tt⟩ := t
        simp only at k1 k2 k3
        by_cases hk6 : tk = 6
        · by_cases h59 : tt = [59]
          · rw [spl_sep ⟨hk6, h59⟩] at hrel
            subst hk6 h59
            clear k2
            by_cases hgt : f < i
            · have g1' : (f : Int) < (i : Int) := by omega
              obtain ⟨m, rfl⟩ : ∃ m, i = m + 1 := ⟨i - 1, by omega⟩
              obtain ⟨tf, htf⟩ : ∃ tf, T[f]? = some tf := ⟨_, List.getElem?_eq_getElem (by omega)⟩
              obtain ⟨em, hem⟩ : ∃ em, E[m]? = some em := ⟨_, List.getElem?_eq_getElem (by have := HEL.out; omega)⟩
              have hae := HRise.out.between f m tf em (by omega) htf hem
              have hes := (HRise.out.ends m em hem).2
              rw [cur_some hgt htf hem] at hrel
              obtain ⟨ta, hta⟩ : ∃ ta, tf.a = ta := ⟨_, rfl⟩
              have kA := (hc1 wr HB5.out f tf htf).2.1
              rw [hta] at hrel hae kA
              obtain ⟨g2, hg2, hc2⟩ := HQ2.out (by have := HEL.out; omega)
              subst hg2
              have kE := hc2 wr HB5.out m em hem
              have b0 : (0 : Int) ≤ (ta : Int) := by omega
              have b1 : (ta : Int) ≤ (em : Int) := by omega
              have b2 : (em : Int) ≤ (s.size : Int) := by omega
              have w1 : IntKind.i64.wrap (((m + 1 : Nat) : Int) - 1) = (m : Int) := by rw [IntKind.wrap_i64]; omega
              have w2 : IntKind.i64.wrap ((m : Int) + 1 - 1) = (m : Int) := by rw [IntKind.wrap_i64]; omega
              have w3 : IntKind.i64.wrap (m : Int) = (m : Int) := by rw [IntKind.wrap_i64]; omega
              have m5 : (m : Int) < (E.length : Int) := by have := HEL.out; omega
              have m6 : (0 : Int) ≤ (m : Int) := by omega
              have f5 : (f : Int) < (T.length : Int) := by omega
              have f6 : (0 : Int) ≤ (f : Int) := by omega
              have hX := ba_eq (ext_list s ta em)
              obtain ⟨PL, hPL⟩ : ∃ PL, (s.data.toList.take em).drop ta = PL := ⟨_, rfl⟩
              rw [show pce s.data.toList (some (ta, em)) = [PL] from by rw [pce, hPL]] at hrel
              rw [hPL] at hX
              have N1 : Hid ((O.length + 1) * 16 ≤ 140737488355328) := (show (O.length + 1) * 16 ≤ 140737488355328 by omega)
              have N2 : Hid (O.length + 1 ≤ maxLen) := (show O.length + 1 ≤ maxLen by unfold maxLen; omega)
              have hwsz : w5.heap.size ≤ wr.heap.size := HS5.out
              have hbA : Below w5.heap.size w5 ((wr.alloc (.cells #[.string ⟨PL.toArray⟩] 9)).drew) := below_trans (below_trans HB5.out ((Below.refl wr.heap.size wr).alloc (Nat.le_refl _) _)) (below_drew _)
              have HC4 := hide (show ((wr.alloc (.cells #[.string ⟨PL.toArray⟩] 9)).drew).cell? ⟨g1, f * 3 + 1, none⟩ = some (.int .i64 (ta : Int)) ∧ ((wr.alloc (.cells #[.string ⟨PL.toArray⟩] 9)).drew).cell? ⟨g2, m, none⟩ = some (.int .i64 (em : Int)) from ⟨hta ▸ (hc1 _ hbA f tf htf).2.1, hc2 _ hbA m em hem⟩)
              have HBg := hide (fun w2 (hgrow : ((wr.alloc (.cells #[.string ⟨PL.toArray⟩] 9)).drew).grownBy w2 u7.ownBlock) => show Below w5.heap.size w5 w2 from by
                refine hbA.grown hgrow hbA.size ?_
                intro k hk
                rcases HO.out.2 with ⟨rfl, _⟩ | ⟨gz, capz, curz, rfl, hbz, _⟩
                · cases hk
                · cases hk; exact hbz)
              have HCg := hide (fun w2 hgrow => show w2.cell? ⟨g1, f * 3 + 1, none⟩ = some (.int .i64 (ta : Int)) ∧ w2.cell? ⟨g2, m, none⟩ = some (.int .i64 (em : Int)) from ⟨hta ▸ (hc1 _ (HBg.out w2 hgrow) f tf htf).2.1, hc2 _ (HBg.out w2 hgrow) m em hem⟩)
              clear hbA
              have HC0 := hide (show wr.drew.cell? ⟨g1, f * 3 + 1, none⟩ = some (.int .i64 (ta : Int)) ∧ wr.drew.cell? ⟨g2, m, none⟩ = some (.int .i64 (em : Int)) from ⟨kA, kE⟩)
              have HN : Hid (R.1 = (O ++ [PL]) ++ spl s.data.toList (cur T E (m + 1 + 1) (m + 1 + 1)) (T.drop (m + 1 + 1)) (E.drop (m + 1 + 1))) := by
                rw [cur_none, hrel]; simp [Hid]
              clear hrel hdt hde ht he htf hem hae hes hta hPL hc1 hc2
              go_upto_region 11 with fail
              go_region_held3 (fun V => V.cell? ⟨g1, f * 3 + 1, none⟩ = some (.int .i64 (ta : Int)) ∧ V.cell? ⟨g2, m, none⟩ = some (.int .i64 (em : Int))) (first | with_reducible exact HC0.out | with_reducible exact HC4.out | with_reducible exact HC5.out) (first
                | (refine step_append_lies _ (by rfl) _ _ _ (by rfl) w5.heap.size 9 i0 (.string ⟨#[]⟩) 1 16 Tryd.underlying48 hi0 hi1 hi2 hi3 rfl (by omega) u7 _ _ (by rfl) ((HO.out.alloc _).drew) ⟨wr.heap.size, 0, none⟩ 1 1 [.string ⟨PL.toArray⟩] (by rfl) (by rfl) (World.news_of_block (cs := #[.string ⟨PL.toArray⟩]) (t := 9) (fr := (0, 0)) (heap_alloc_new wr _)) (by simp [Value.oneCell']) (by omega) N2.out N1.out (by simp; omega) (wr.heap.size + 1) (by simp) ?_; intro gg cap w2 hown2 hgrow hat hlt2; have HC5 := hide (HCg.out _ hgrow); have HB2 := hide (HBg.out _ hgrow); have HO2 := hide hown2; clear hown2 hgrow hat hlt2))
              all_goals
                go_wp2
                go_roundw
                case rel => exact ⟨m + 1 + 1, m + 1 + 1, O ++ [PL], by omega, rfl, rfl, by rw [List.length_append, stL_append]; exact HO2.out, .inl ⟨by omega, HN.out⟩, by simp; omega, HB2.out⟩
                case measure => (simp [intOf]) <;> omega
            · have g1' : ¬ (f : Int) < (i : Int) := by omega
              obtain rfl : f = i := by omega
              rw [cur_none] at hrel
              have HN : Hid (R.1 = O ++ spl s.data.toList (cur T E (f + 1) (f + 1)) (T.drop (f + 1)) (E.drop (f + 1))) := by
                rw [cur_none, hrel]; simp [Hid, pce]
              clear hrel hdt hde ht he hc1
              go_wp2
              go_roundw
              case rel => exact ⟨f + 1, f + 1, O, by omega, rfl, rfl, HO.out, .inl ⟨by omega, HN.out⟩, by omega, HB5.out⟩
              case measure => simp [intOf]; omega
          · rw [spl_on (by intro h; exact h59 h.2), ← cur_next hfi ht he] at hrel
            have hne : (tt == [59]) = false := beq_eq_false_iff_ne.2 h59
            have HN := hide hrel
            subst hk6
            clear hrel hdt hde ht he hc1 k2 h59
            go_wp2
            go_roundw
            case rel => exact ⟨i + 1, f, O, by omega, rfl, rfl, HO.out, .inl ⟨by omega, HN.out⟩, by omega, HB5.out⟩
            case measure => simp [intOf]; omega
        · rw [spl_on (by intro h; exact hk6 h.1), ← cur_next hfi ht he] at hrel
          have e6 : ((tk : Int) == 6) = false := by simp; omega
          have e6' : ((tk : Int) != 6) = true := by simp [bne]; omega
          have HN := hide hrel
          clear hrel hdt hde ht he hc1 k2 k3 hk6
          go_wp2
          go_roundw
          case rel => exact ⟨i + 1, f, O, by omega, rfl, rfl, HO.out, .inl ⟨by omega, HN.out⟩, by omega, HB5.out⟩
          case measure => simp [intOf]; omega
      · have hie : i = T.length := by omega
        have l2 : ¬ (i : Int) < (T.length : Int) := by omega
        rw [List.drop_of_length_le (by omega), List.drop_of_length_le (by have := HEL.out; omega), spl_none] at hrel
        have HIE := hide hie
        clear hie
        by_cases hgt : f < i
        · have g1' : (f : Int) < (i : Int) := by omega
          obtain ⟨g1, rfl, hc1⟩ := HQ1.out (by omega)
          obtain ⟨m, rfl⟩ : ∃ m, i = m + 1 := ⟨i - 1, by omega⟩
          obtain ⟨tf, htf⟩ : ∃ tf, T[f]? = some tf := ⟨_, List.getElem?_eq_getElem (by omega)⟩
          obtain ⟨em, hem⟩ : ∃ em, E[m]? = some em := ⟨_, List.getElem?_eq_getElem (by have := HEL.out; omega)⟩
          have hae := HRise.out.between f m tf em (by omega) htf hem
          have hes := (HRise.out.ends m em hem).2
          rw [cur_some hgt htf hem] at hrel
          obtain ⟨ta, hta⟩ : ∃ ta, tf.a = ta := ⟨_, rfl⟩
          have kA := (hc1 wr HB5.out f tf htf).2.1
          rw [hta] at hrel hae kA
          obtain ⟨g2, hg2, hc2⟩ := HQ2.out (by have := HEL.out; omega)
          subst hg2
          have kE := hc2 wr HB5.out m em hem
          have b0 : (0 : Int) ≤ (ta : Int) := by omega
          have b1 : (ta : Int) ≤ (em : Int) := by omega
          have b2 : (em : Int) ≤ (s.size : Int) := by omega
          have w1 : IntKind.i64.wrap (((m + 1 : Nat) : Int) - 1) = (m : Int) := by rw [IntKind.wrap_i64]; omega
          have w2 : IntKind.i64.wrap ((m : Int) + 1 - 1) = (m : Int) := by rw [IntKind.wrap_i64]; omega
          have w3 : IntKind.i64.wrap (m : Int) = (m : Int) := by rw [IntKind.wrap_i64]; omega
          have m5 : (m : Int) < (E.length : Int) := by have := HEL.out; omega
          have m6 : (0 : Int) ≤ (m : Int) := by omega
          have f5 : (f : Int) < (T.length : Int) := by omega
          have f6 : (0 : Int) ≤ (f : Int) := by omega
          have hX := ba_eq (ext_list s ta em)
          obtain ⟨PL, hPL⟩ : ∃ PL, (s.data.toList.take em).drop ta = PL := ⟨_, rfl⟩
          rw [show pce s.data.toList (some (ta, em)) = [PL] from by rw [pce, hPL]] at hrel
          rw [hPL] at hX
          have N1 : Hid ((O.length + 1) * 16 ≤ 140737488355328) := (show (O.length + 1) * 16 ≤ 140737488355328 by omega)
          have N2 : Hid (O.length + 1 ≤ maxLen) := (show O.length + 1 ≤ maxLen by unfold maxLen; omega)
          have hwsz : w5.heap.size ≤ wr.heap.size := HS5.out
          have hbA : Below w5.heap.size w5 ((wr.alloc (.cells #[.string ⟨PL.toArray⟩] 9)).drew) := below_trans (below_trans HB5.out ((Below.refl wr.heap.size wr).alloc (Nat.le_refl _) _)) (below_drew _)
          have HC4 := hide (show ((wr.alloc (.cells #[.string ⟨PL.toArray⟩] 9)).drew).cell? ⟨g1, f * 3 + 1, none⟩ = some (.int .i64 (ta : Int)) ∧ ((wr.alloc (.cells #[.string ⟨PL.toArray⟩] 9)).drew).cell? ⟨g2, m, none⟩ = some (.int .i64 (em : Int)) from ⟨hta ▸ (hc1 _ hbA f tf htf).2.1, hc2 _ hbA m em hem⟩)
          have HBg := hide (fun w2 (hgrow : ((wr.alloc (.cells #[.string ⟨PL.toArray⟩] 9)).drew).grownBy w2 u7.ownBlock) => show Below w5.heap.size w5 w2 from by
            refine hbA.grown hgrow hbA.size ?_
            intro k hk
            rcases HO.out.2 with ⟨rfl, _⟩ | ⟨gz, capz, curz, rfl, hbz, _⟩
            · cases hk
            · cases hk; exact hbz)
          have HCg := hide (fun w2 hgrow => show w2.cell? ⟨g1, f * 3 + 1, none⟩ = some (.int .i64 (ta : Int)) ∧ w2.cell? ⟨g2, m, none⟩ = some (.int .i64 (em : Int)) from ⟨hta ▸ (hc1 _ (HBg.out w2 hgrow) f tf htf).2.1, hc2 _ (HBg.out w2 hgrow) m em hem⟩)
          clear hbA
          have HC0 := hide (show wr.drew.cell? ⟨g1, f * 3 + 1, none⟩ = some (.int .i64 (ta : Int)) ∧ wr.drew.cell? ⟨g2, m, none⟩ = some (.int .i64 (em : Int)) from ⟨kA, kE⟩)
          have HN : Hid (R.1 = O ++ [PL]) := hrel
          clear hrel htf hem hae hes hta hPL hc1 hc2
          go_upto_region 11 with fail
          go_region_held3 (fun V => V.cell? ⟨g1, f * 3 + 1, none⟩ = some (.int .i64 (ta : Int)) ∧ V.cell? ⟨g2, m, none⟩ = some (.int .i64 (em : Int))) (first | with_reducible exact HC0.out | with_reducible exact HC4.out | with_reducible exact HC5.out) (first
            | (refine step_append_lies _ (by rfl) _ _ _ (by rfl) w5.heap.size 9 i0 (.string ⟨#[]⟩) 1 16 Tryd.underlying48 hi0 hi1 hi2 hi3 rfl (by omega) u7 _ _ (by rfl) ((HO.out.alloc _).drew) ⟨wr.heap.size, 0, none⟩ 1 1 [.string ⟨PL.toArray⟩] (by rfl) (by rfl) (World.news_of_block (cs := #[.string ⟨PL.toArray⟩]) (t := 9) (fr := (0, 0)) (heap_alloc_new wr _)) (by simp [Value.oneCell']) (by omega) N2.out N1.out (by simp; omega) (wr.heap.size + 1) (by simp) ?_; intro gg cap w2 hown2 hgrow hat hlt2; have HC5 := hide (HCg.out _ hgrow); have HB2 := hide (HBg.out _ hgrow); have HO2 := hide hown2; clear hown2 hgrow hat hlt2))
          all_goals
            go_wp2
            go_roundw
            case rel => exact ⟨m + 1 + 1, m + 1 + 1, O ++ [PL], by omega, rfl, rfl, by rw [List.length_append, stL_append]; exact HO2.out, .inr ⟨by have := HIE.out; omega, rfl, HN.out⟩, by simp; omega, HB2.out⟩
            case measure => (simp [intOf]) <;> omega
        · have g1' : ¬ (f : Int) < (i : Int) := by omega
          obtain rfl : f = i := by omega
          rw [cur_none, pce, List.append_nil] at hrel
          have HN := hide hrel
          clear hrel
          go_wp2
          go_roundw
          case rel => exact ⟨f + 1, f + 1, O, by omega, rfl, rfl, HO.out, .inr ⟨by have := HIE.out; omega, rfl, HN.out⟩, by omega, HB5.out⟩
          case measure => simp [intOf]; omega
    · have l1 : ¬ (i : Int) ≤ (T.length : Int) := by omega
      have HN := hide hrel
      have hR2 : R.2 = 0 := by rw [← HR.out]
      have HR2 := hide hR2
      clear hrel hR2
      go_wp2
      go_returns
      rw [HN.out, HR2.out]
      exact ⟨_, rfl, own_base HO.out HS.out, below_trans HB.out HB5.out⟩
end Go.Proofs.YtkooijhdjjdigaaDoor
