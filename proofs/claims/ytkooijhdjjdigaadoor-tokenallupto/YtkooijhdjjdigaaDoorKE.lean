/- The document's End. (genKE.py) -/
import Derived.Test.YtkooijhdjjdigaaDoorKD
namespace Go.Proofs.YtkooijhdjjdigaaDoor
open Go.ChangeShapes Go.WideShapes Go.ChangeAt Go.RowKit
set_option linter.unusedVariables false

/-- Where the token ends with which bytes behind a begin; -1: there is none. -/
def tokE (l : List UInt8) (a : Nat) : Int := match tok l with | some (n, _) => ((a + n : Nat) : Int) | none => -1
/-- Its kind; of none, which kind it would be. -/
def tokK (l : List UInt8) : Nat := match tok l with
  | some (_, k) => k
  | none => match l with
    | [] => 6
    | c :: r => if c.toNat = 39 then 3 else if (c.toNat = 120 ∨ c.toNat = 88) ∧ (r.head?.map UInt8.toNat) = some 39 then 4 else 6
theorem tok_text {c : UInt8} {r : List UInt8} (h : c.toNat = 39) (a : Nat) : tokE (c :: r) a = endI (quo r) (a + 1) ∧ tokK (c :: r) = 3 := by
  unfold tokE tokK
  rw [tok, if_pos h]
  cases hq : quo r <;> simp [endI, h]
  omega
theorem tok_blob {c d : UInt8} {r : List UInt8} (h : c.toNat = 120 ∨ c.toNat = 88) (hd : d.toNat = 39) (a : Nat) : tokE (c :: d :: r) a = endI (blo false r) (a + 2) ∧ tokK (c :: d :: r) = 4 := by
  have h39 : ¬ c.toNat = 39 := by omega
  unfold tokE tokK
  rw [tok, if_neg h39, if_pos ⟨h, by simp [hd]⟩]
  rw [List.tail_cons]
  cases hq : blo false r
  · simp [endI, h39, h, hd]
  · simp [endI]; omega
theorem tok_word {c : UInt8} {r : List UInt8} (h39 : c.toNat ≠ 39) (hx : ¬ ((c.toNat = 120 ∨ c.toNat = 88) ∧ (r.head?.map UInt8.toNat) = some 39)) (h : letB c = true) (a : Nat) : tokE (c :: r) a = ((a + 1 + wrd r : Nat) : Int) ∧ tokK (c :: r) = 1 := by
  unfold tokE tokK
  rw [tok, if_neg h39, if_neg hx, if_pos h]
  exact ⟨by simp; omega, rfl⟩
theorem tok_int {c : UInt8} {r : List UInt8} (h39 : c.toNat ≠ 39) (hx : ¬ ((c.toNat = 120 ∨ c.toNat = 88) ∧ (r.head?.map UInt8.toNat) = some 39)) (h : letB c = false) (hd : digB c = true) (a : Nat) : tokE (c :: r) a = ((a + 1 + dgs r : Nat) : Int) ∧ tokK (c :: r) = 2 := by
  unfold tokE tokK
  rw [tok, if_neg h39, if_neg hx, if_neg (by simp [h]), if_pos hd]
  exact ⟨by simp; omega, rfl⟩
theorem tok_par {c : UInt8} {r : List UInt8} (h39 : c.toNat ≠ 39) (hx : ¬ ((c.toNat = 120 ∨ c.toNat = 88) ∧ (r.head?.map UInt8.toNat) = some 39)) (h : letB c = false) (hd : digB c = false) (hp : c.toNat = 63) (a : Nat) : tokE (c :: r) a = ((a + 1 + dgs r : Nat) : Int) ∧ tokK (c :: r) = 5 := by
  unfold tokE tokK
  rw [tok, if_neg h39, if_neg hx, if_neg (by simp [h]), if_neg (by simp [hd]), if_pos hp]
  exact ⟨by simp; omega, rfl⟩
theorem tok_pair {c d : UInt8} {r : List UInt8} (h39 : c.toNat ≠ 39) (hx : ¬ (c.toNat = 120 ∨ c.toNat = 88)) (h : letB c = false) (hd : digB c = false) (hp : c.toNat ≠ 63) (hq : paiB c d = true) (a : Nat) : tokE (c :: d :: r) a = ((a + 2 : Nat) : Int) ∧ tokK (c :: d :: r) = 6 := by
  unfold tokE tokK
  rw [tok, if_neg h39, if_neg (fun h => hx h.1), if_neg (by simp [h]), if_neg (by simp [hd]), if_neg hp, if_pos (by simp [hq])]
  exact ⟨rfl, rfl⟩
theorem tok_sing {c : UInt8} {r : List UInt8} (h39 : c.toNat ≠ 39) (hx : ¬ (c.toNat = 120 ∨ c.toNat = 88)) (h : letB c = false) (hd : digB c = false) (hp : c.toNat ≠ 63) (hq : (r.head?.map (paiB c)).getD false = false) (hs : sinB c = true) (a : Nat) : tokE (c :: r) a = ((a + 1 : Nat) : Int) ∧ tokK (c :: r) = 6 := by
  unfold tokE tokK
  rw [tok, if_neg h39, if_neg (fun h => hx h.1), if_neg (by simp [h]), if_neg (by simp [hd]), if_neg hp, if_neg (by simp [hq]), if_pos hs]
  exact ⟨rfl, rfl⟩
theorem tok_none {c : UInt8} {r : List UInt8} (h39 : c.toNat ≠ 39) (hx : ¬ (c.toNat = 120 ∨ c.toNat = 88)) (h : letB c = false) (hd : digB c = false) (hp : c.toNat ≠ 63) (hq : (r.head?.map (paiB c)).getD false = false) (hs : sinB c = false) (a : Nat) : tokE (c :: r) a = -1 ∧ tokK (c :: r) = 6 := by
  have e : tok (c :: r) = none := by rw [tok, if_neg h39, if_neg (fun h => hx h.1), if_neg (by simp [h]), if_neg (by simp [hd]), if_neg hp, if_neg (by simp [hq]), if_neg (by simp [hs])]
  unfold tokE tokK
  rw [e]
  exact ⟨rfl, by simp [h39, hx]⟩

set_option maxHeartbeats 4000000 in
set_option maxRecDepth 20000 in
theorem end_e (s : ByteArray) (hs : s.size ≤ 140737488355328) (a : Nat) (ha : a < s.size) (w : World) :
    Calls Tryd.prog 26 #[.string s, .int .i64 (a : Int)] w fun e w' => e = .returned (.tuple #[.int .i64 (tokE (s.data.toList.drop a) a), .int .i64 ((tokK (s.data.toList.drop a) : Nat) : Int)]) ∧ w = w' := by
  obtain ⟨R, hR⟩ : ∃ R, tokE (s.data.toList.drop a) a = R := ⟨_, rfl⟩
  obtain ⟨K, hK⟩ : ∃ K, tokK (s.data.toList.drop a) = K := ⟨_, rfl⟩
  rw [hR, hK]
  have l0 : (0 : Int) ≤ (a : Int) := by omega
  have l1 : (a : Int) < (s.size : Int) := by omega
  have hw1 : IntKind.i64.wrap ((a : Int) + 1) = ((a + 1 : Nat) : Int) := by rw [IntKind.wrap_i64]; omega
  have hw2 : IntKind.i64.wrap ((a : Int) + 2) = ((a + 2 : Nat) : Int) := by rw [IntKind.wrap_i64]; omega
  obtain ⟨c, hc⟩ : ∃ c : UInt8, s[a]'ha = c := ⟨_, rfl⟩
  have hdr := drop_next s a ha
  rw [hc] at hdr
  rw [hdr] at hR hK
  obtain ⟨q, hq⟩ : ∃ q, c.toNat = q := ⟨_, rfl⟩
  have hb : ∀ (h : a < s.size), ((s[a]'h).toNat : Int) = (q : Int) := fun h => by rw [hc, hq]
  have HQ : Hid (∀ V, Calls Tryd.prog 42 #[.string s, .int .i64 (a : Int)] V fun e w' => e = .returned (.int .i64 (endI (quo (s.data.toList.drop (a + 1))) (a + 1))) ∧ V = w') := fun V => quote_e s hs a ha V
  clear hc
  by_cases hlt2 : a + 1 < s.size
  · have m2 : ((a + 1 : Nat) : Int) < (s.size : Int) := by omega
    have m3 : (0 : Int) ≤ ((a + 1 : Nat) : Int) := by omega
    obtain ⟨d, hd⟩ : ∃ d : UInt8, s[a + 1]'hlt2 = d := ⟨_, rfl⟩
    have hdr2 := drop_next s (a + 1) hlt2
    rw [hd] at hdr2
    obtain ⟨p, hp⟩ : ∃ p, d.toNat = p := ⟨_, rfl⟩
    have hb2 : ∀ (h : a + 1 < s.size), ((s[a + 1]'h).toNat : Int) = (p : Int) := fun h => by rw [hd, hp]
    have HBl : Hid (∀ V, Calls Tryd.prog 43 #[.string s, .int .i64 ((a : Int) + 1)] V fun e w' => e = .returned (.int .i64 (endI (blo false (s.data.toList.drop (a + 1 + 1))) (a + 1 + 1))) ∧ V = w') := fun V => blob_e s hs (a + 1) hlt2 V
    clear hd
    by_cases h39 : q = 39
    · have hN := tok_text (r := s.data.toList.drop (a + 1)) (hq.trans h39) a
      rw [hR, hK] at hN
      subst h39
      have HN := hide hN
      clear hN hR hK hq hdr hdr2 hp
      go_enter Tryd.func26, Tryd.ntmps26
      go_wp2_with (first
        | (go_at_call 42; (with_reducible refine Calls.mono (HQ.out _) ?_); rintro e w5 ⟨rfl, rfl⟩))
      go_ret2
      exact ⟨by rw [HN.out.1, HN.out.2]; rfl, rfl⟩
    have e39 : ((q : Int) == 39) = false := by simp; omega
    by_cases hx : (q = 120 ∨ q = 88) ∧ p = 39
    · obtain ⟨hx, h39p⟩ := hx
      have hN := tok_blob (r := s.data.toList.drop (a + 1 + 1)) (show c.toNat = 120 ∨ c.toNat = 88 by omega) (hp.trans h39p) a
      rw [← hdr2, hR, hK] at hN
      subst h39p
      have HN := hide hN
      clear hN hR hK hq hp hdr hdr2 h39
      rcases hx with rfl | rfl
      all_goals
        go_enter Tryd.func26, Tryd.ntmps26
        go_wp2_with (first
          | (go_at_call 43; (with_reducible refine Calls.mono (HBl.out _) ?_); rintro e w5 ⟨rfl, rfl⟩))
        go_ret2
        exact ⟨by rw [HN.out.1, HN.out.2]; rfl, rfl⟩
    have e39p : (q = 120 ∨ q = 88) → ((p : Int) == 39) = false := fun h => by simp; omega
    have hxr : ¬ ((c.toNat = 120 ∨ c.toNat = 88) ∧ ((s.data.toList.drop (a + 1)).head?.map UInt8.toNat) = some 39) := by rw [hdr2]; simp; omega
    by_cases hL : letB c = true
    · have hN := tok_word (show c.toNat ≠ 39 by omega) hxr hL a
      rw [hR, hK] at hN
      have HN := hide (show ((a + 1 + wrd (s.data.toList.drop (a + 1)) : Nat) : Int) = R ∧ K = 1 from ⟨hN.1.symm, hN.2⟩)
      have HL : Hid (∀ V, Calls Tryd.prog 44 #[.int .u8 (q : Int)] V fun e w' => e = .returned (.bool true) ∧ V = w') := fun V => by rw [← hL, ← hq]; exact letter_e c V
      by_cases hxx : q = 120
      · have e39q := e39p (by omega)
        subst hxx
        clear hN hR hK hL hq hxr h39 hdr hdr2 hp e39p hx
        go_enter Tryd.func26, Tryd.ntmps26
        go_wp2_with (first
          | (go_at_call 44; (with_reducible refine Calls.mono (HL.out _) ?_); rintro e w5 ⟨rfl, rfl⟩))
        go_loopw [8] (fun ev wr => ∃ j : Nat, a + 1 ≤ j ∧ j ≤ s.size ∧ ev = .int .i64 (j : Int) ∧ ((j + wrd (s.data.toList.drop j) : Nat) : Int) = R ∧ wr = w) (fun ev _ => s.size - (intOf ev).toNat)
        case atStart => exact ⟨a + 1, by omega, by omega, by rfl, HN.out.1, rfl⟩
        case round =>
          clear hw1 hw2 hb hb2 l0 l1 m2 m3
          obtain ⟨j, haj, hj, rfl, hrel, rfl⟩ := hrel
          by_cases hlt3 : j < s.size
          · have n1 : (j : Int) < (s.size : Int) := by omega
            have n0 : (0 : Int) ≤ (j : Int) := by omega
            have hw3 : IntKind.i64.wrap ((j : Int) + 1) = ((j + 1 : Nat) : Int) := by rw [IntKind.wrap_i64]; omega
            obtain ⟨c3, hc3⟩ : ∃ c : UInt8, s[j]'hlt3 = c := ⟨_, rfl⟩
            have hdr3 := drop_next s j hlt3
            rw [hc3] at hdr3
            rw [hdr3, wrd_cons] at hrel
            obtain ⟨q3, hq3⟩ : ∃ q, c3.toNat = q := ⟨_, rfl⟩
            have hb3 : ∀ (h : j < s.size), ((s[j]'h).toNat : Int) = (q3 : Int) := fun h => by rw [hc3, hq3]
            by_cases hL3 : letB c3 = true
            · have HL3 : Hid (∀ V, Calls Tryd.prog 44 #[.int .u8 (q3 : Int)] V fun e w' => e = .returned (.bool true) ∧ V = w') := fun V => by rw [← hL3, ← hq3]; exact letter_e c3 V
              rw [if_pos (by simp [hL3])] at hrel
              have HN3 := hide hrel
              clear hrel hdr3 hc3 hq3 hL3
              go_wp2_with (first
                | (go_at_call 44; (with_reducible refine Calls.mono (HL3.out _) ?_); rintro e w5 ⟨rfl, rfl⟩))
              go_roundw
              case rel => exact ⟨j + 1, by omega, by omega, rfl, by rw [← HN3.out]; omega, trivial⟩
              case measure => simp [intOf]; omega
            · rw [Bool.not_eq_true] at hL3
              have HL3 : Hid (∀ V, Calls Tryd.prog 44 #[.int .u8 (q3 : Int)] V fun e w' => e = .returned (.bool false) ∧ V = w') := fun V => by rw [← hL3, ← hq3]; exact letter_e c3 V
              by_cases hD3 : digB c3 = true
              · have HD3 : Hid (∀ V, Calls Tryd.prog 45 #[.int .u8 (q3 : Int)] V fun e w' => e = .returned (.bool true) ∧ V = w') := fun V => by rw [← hD3, ← hq3]; exact digit_e c3 V
                rw [if_pos (by simp [hD3])] at hrel
                have HN3 := hide hrel
                clear hrel hdr3 hc3 hq3 hL3 hD3
                go_wp2_with (first
                  | (go_at_call 44; (with_reducible refine Calls.mono (HL3.out _) ?_); rintro e w5 ⟨rfl, rfl⟩)
                  | (go_at_call 45; (with_reducible refine Calls.mono (HD3.out _) ?_); rintro e w5 ⟨rfl, rfl⟩))
                go_roundw
                case rel => exact ⟨j + 1, by omega, by omega, rfl, by rw [← HN3.out]; omega, trivial⟩
                case measure => simp [intOf]; omega
              · rw [Bool.not_eq_true] at hD3
                have HD3 : Hid (∀ V, Calls Tryd.prog 45 #[.int .u8 (q3 : Int)] V fun e w' => e = .returned (.bool false) ∧ V = w') := fun V => by rw [← hD3, ← hq3]; exact digit_e c3 V
                rw [if_neg (by simp [hL3, hD3])] at hrel
                have HN3 := hide hrel
                clear hrel hdr3 hc3 hq3 hL3 hD3
                go_wp2_with (first
                  | (go_at_call 44; (with_reducible refine Calls.mono (HL3.out _) ?_); rintro e w5 ⟨rfl, rfl⟩)
                  | (go_at_call 45; (with_reducible refine Calls.mono (HD3.out _) ?_); rintro e w5 ⟨rfl, rfl⟩))
                go_ret2
                exact ⟨by rw [← HN3.out, HN.out.2]; rfl, rfl⟩
          · have hje : j = s.size := by omega
            have n1 : ¬ (s.size : Int) < (s.size : Int) := by omega
            subst hje
            rw [List.drop_of_length_le (by simp)] at hrel
            have HN3 := hide hrel
            clear hrel
            go_wp2
            go_ret2
            exact ⟨by rw [← HN3.out, HN.out.2]; rfl, rfl⟩
      by_cases hxx : q = 88
      · have e39q := e39p (by omega)
        subst hxx
        clear hN hR hK hL hq hxr h39 hdr hdr2 hp e39p hx
        go_enter Tryd.func26, Tryd.ntmps26
        go_wp2_with (first
          | (go_at_call 44; (with_reducible refine Calls.mono (HL.out _) ?_); rintro e w5 ⟨rfl, rfl⟩))
        go_loopw [8] (fun ev wr => ∃ j : Nat, a + 1 ≤ j ∧ j ≤ s.size ∧ ev = .int .i64 (j : Int) ∧ ((j + wrd (s.data.toList.drop j) : Nat) : Int) = R ∧ wr = w) (fun ev _ => s.size - (intOf ev).toNat)
        case atStart => exact ⟨a + 1, by omega, by omega, by rfl, HN.out.1, rfl⟩
        case round =>
          clear hw1 hw2 hb hb2 l0 l1 m2 m3
          obtain ⟨j, haj, hj, rfl, hrel, rfl⟩ := hrel
          by_cases hlt3 : j < s.size
          · have n1 : (j : Int) < (s.size : Int) := by omega
            have n0 : (0 : Int) ≤ (j : Int) := by omega
            have hw3 : IntKind.i64.wrap ((j : Int) + 1) = ((j + 1 : Nat) : Int) := by rw [IntKind.wrap_i64]; omega
            obtain ⟨c3, hc3⟩ : ∃ c : UInt8, s[j]'hlt3 = c := ⟨_, rfl⟩
            have hdr3 := drop_next s j hlt3
            rw [hc3] at hdr3
            rw [hdr3, wrd_cons] at hrel
            obtain ⟨q3, hq3⟩ : ∃ q, c3.toNat = q := ⟨_, rfl⟩
            have hb3 : ∀ (h : j < s.size), ((s[j]'h).toNat : Int) = (q3 : Int) := fun h => by rw [hc3, hq3]
            by_cases hL3 : letB c3 = true
            · have HL3 : Hid (∀ V, Calls Tryd.prog 44 #[.int .u8 (q3 : Int)] V fun e w' => e = .returned (.bool true) ∧ V = w') := fun V => by rw [← hL3, ← hq3]; exact letter_e c3 V
              rw [if_pos (by simp [hL3])] at hrel
              have HN3 := hide hrel
              clear hrel hdr3 hc3 hq3 hL3
              go_wp2_with (first
                | (go_at_call 44; (with_reducible refine Calls.mono (HL3.out _) ?_); rintro e w5 ⟨rfl, rfl⟩))
              go_roundw
              case rel => exact ⟨j + 1, by omega, by omega, rfl, by rw [← HN3.out]; omega, trivial⟩
              case measure => simp [intOf]; omega
            · rw [Bool.not_eq_true] at hL3
              have HL3 : Hid (∀ V, Calls Tryd.prog 44 #[.int .u8 (q3 : Int)] V fun e w' => e = .returned (.bool false) ∧ V = w') := fun V => by rw [← hL3, ← hq3]; exact letter_e c3 V
              by_cases hD3 : digB c3 = true
              · have HD3 : Hid (∀ V, Calls Tryd.prog 45 #[.int .u8 (q3 : Int)] V fun e w' => e = .returned (.bool true) ∧ V = w') := fun V => by rw [← hD3, ← hq3]; exact digit_e c3 V
                rw [if_pos (by simp [hD3])] at hrel
                have HN3 := hide hrel
                clear hrel hdr3 hc3 hq3 hL3 hD3
                go_wp2_with (first
                  | (go_at_call 44; (with_reducible refine Calls.mono (HL3.out _) ?_); rintro e w5 ⟨rfl, rfl⟩)
                  | (go_at_call 45; (with_reducible refine Calls.mono (HD3.out _) ?_); rintro e w5 ⟨rfl, rfl⟩))
                go_roundw
                case rel => exact ⟨j + 1, by omega, by omega, rfl, by rw [← HN3.out]; omega, trivial⟩
                case measure => simp [intOf]; omega
              · rw [Bool.not_eq_true] at hD3
                have HD3 : Hid (∀ V, Calls Tryd.prog 45 #[.int .u8 (q3 : Int)] V fun e w' => e = .returned (.bool false) ∧ V = w') := fun V => by rw [← hD3, ← hq3]; exact digit_e c3 V
                rw [if_neg (by simp [hL3, hD3])] at hrel
                have HN3 := hide hrel
                clear hrel hdr3 hc3 hq3 hL3 hD3
                go_wp2_with (first
                  | (go_at_call 44; (with_reducible refine Calls.mono (HL3.out _) ?_); rintro e w5 ⟨rfl, rfl⟩)
                  | (go_at_call 45; (with_reducible refine Calls.mono (HD3.out _) ?_); rintro e w5 ⟨rfl, rfl⟩))
                go_ret2
                exact ⟨by rw [← HN3.out, HN.out.2]; rfl, rfl⟩
          · have hje : j = s.size := by omega
            have n1 : ¬ (s.size : Int) < (s.size : Int) := by omega
            subst hje
            rw [List.drop_of_length_le (by simp)] at hrel
            have HN3 := hide hrel
            clear hrel
            go_wp2
            go_ret2
            exact ⟨by rw [← HN3.out, HN.out.2]; rfl, rfl⟩
      have e120 : ((q : Int) == 120) = false := by simp; omega
      have e88 : ((q : Int) == 88) = false := by simp; omega
      clear hxx
      clear hN hR hK hL hq hxr h39 hdr hdr2 hp e39p hx
      go_enter Tryd.func26, Tryd.ntmps26
      go_wp2_with (first
        | (go_at_call 44; (with_reducible refine Calls.mono (HL.out _) ?_); rintro e w5 ⟨rfl, rfl⟩))
      go_loopw [8] (fun ev wr => ∃ j : Nat, a + 1 ≤ j ∧ j ≤ s.size ∧ ev = .int .i64 (j : Int) ∧ ((j + wrd (s.data.toList.drop j) : Nat) : Int) = R ∧ wr = w) (fun ev _ => s.size - (intOf ev).toNat)
      case atStart => exact ⟨a + 1, by omega, by omega, by rfl, HN.out.1, rfl⟩
      case round =>
        clear hw1 hw2 hb hb2 l0 l1 m2 m3
        obtain ⟨j, haj, hj, rfl, hrel, rfl⟩ := hrel
        by_cases hlt3 : j < s.size
        · have n1 : (j : Int) < (s.size : Int) := by omega
          have n0 : (0 : Int) ≤ (j : Int) := by omega
          have hw3 : IntKind.i64.wrap ((j : Int) + 1) = ((j + 1 : Nat) : Int) := by rw [IntKind.wrap_i64]; omega
          obtain ⟨c3, hc3⟩ : ∃ c : UInt8, s[j]'hlt3 = c := ⟨_, rfl⟩
          have hdr3 := drop_next s j hlt3
          rw [hc3] at hdr3
          rw [hdr3, wrd_cons] at hrel
          obtain ⟨q3, hq3⟩ : ∃ q, c3.toNat = q := ⟨_, rfl⟩
          have hb3 : ∀ (h : j < s.size), ((s[j]'h).toNat : Int) = (q3 : Int) := fun h => by rw [hc3, hq3]
          by_cases hL3 : letB c3 = true
          · have HL3 : Hid (∀ V, Calls Tryd.prog 44 #[.int .u8 (q3 : Int)] V fun e w' => e = .returned (.bool true) ∧ V = w') := fun V => by rw [← hL3, ← hq3]; exact letter_e c3 V
            rw [if_pos (by simp [hL3])] at hrel
            have HN3 := hide hrel
            clear hrel hdr3 hc3 hq3 hL3
            go_wp2_with (first
              | (go_at_call 44; (with_reducible refine Calls.mono (HL3.out _) ?_); rintro e w5 ⟨rfl, rfl⟩))
            go_roundw
            case rel => exact ⟨j + 1, by omega, by omega, rfl, by rw [← HN3.out]; omega, trivial⟩
            case measure => simp [intOf]; omega
          · rw [Bool.not_eq_true] at hL3
            have HL3 : Hid (∀ V, Calls Tryd.prog 44 #[.int .u8 (q3 : Int)] V fun e w' => e = .returned (.bool false) ∧ V = w') := fun V => by rw [← hL3, ← hq3]; exact letter_e c3 V
            by_cases hD3 : digB c3 = true
            · have HD3 : Hid (∀ V, Calls Tryd.prog 45 #[.int .u8 (q3 : Int)] V fun e w' => e = .returned (.bool true) ∧ V = w') := fun V => by rw [← hD3, ← hq3]; exact digit_e c3 V
              rw [if_pos (by simp [hD3])] at hrel
              have HN3 := hide hrel
              clear hrel hdr3 hc3 hq3 hL3 hD3
              go_wp2_with (first
                | (go_at_call 44; (with_reducible refine Calls.mono (HL3.out _) ?_); rintro e w5 ⟨rfl, rfl⟩)
                | (go_at_call 45; (with_reducible refine Calls.mono (HD3.out _) ?_); rintro e w5 ⟨rfl, rfl⟩))
              go_roundw
              case rel => exact ⟨j + 1, by omega, by omega, rfl, by rw [← HN3.out]; omega, trivial⟩
              case measure => simp [intOf]; omega
            · rw [Bool.not_eq_true] at hD3
              have HD3 : Hid (∀ V, Calls Tryd.prog 45 #[.int .u8 (q3 : Int)] V fun e w' => e = .returned (.bool false) ∧ V = w') := fun V => by rw [← hD3, ← hq3]; exact digit_e c3 V
              rw [if_neg (by simp [hL3, hD3])] at hrel
              have HN3 := hide hrel
              clear hrel hdr3 hc3 hq3 hL3 hD3
              go_wp2_with (first
                | (go_at_call 44; (with_reducible refine Calls.mono (HL3.out _) ?_); rintro e w5 ⟨rfl, rfl⟩)
                | (go_at_call 45; (with_reducible refine Calls.mono (HD3.out _) ?_); rintro e w5 ⟨rfl, rfl⟩))
              go_ret2
              exact ⟨by rw [← HN3.out, HN.out.2]; rfl, rfl⟩
        · have hje : j = s.size := by omega
          have n1 : ¬ (s.size : Int) < (s.size : Int) := by omega
          subst hje
          rw [List.drop_of_length_le (by simp)] at hrel
          have HN3 := hide hrel
          clear hrel
          go_wp2
          go_ret2
          exact ⟨by rw [← HN3.out, HN.out.2]; rfl, rfl⟩
    rw [Bool.not_eq_true] at hL
    have HL : Hid (∀ V, Calls Tryd.prog 44 #[.int .u8 (q : Int)] V fun e w' => e = .returned (.bool false) ∧ V = w') := fun V => by rw [← hL, ← hq]; exact letter_e c V
    have n120 : ¬ q = 120 := fun h => by simp [letB, hq, h] at hL
    have n88 : ¬ q = 88 := fun h => by simp [letB, hq, h] at hL
    have e120 : ((q : Int) == 120) = false := by simp; omega
    have e88 : ((q : Int) == 88) = false := by simp; omega
    by_cases hD : digB c = true
    · have hN := tok_int (show c.toNat ≠ 39 by omega) hxr hL hD a
      rw [hR, hK] at hN
      have HN := hide (show ((a + 1 + dgs (s.data.toList.drop (a + 1)) : Nat) : Int) = R ∧ K = 2 from ⟨hN.1.symm, hN.2⟩)
      have HD : Hid (∀ V, Calls Tryd.prog 45 #[.int .u8 (q : Int)] V fun e w' => e = .returned (.bool true) ∧ V = w') := fun V => by rw [← hD, ← hq]; exact digit_e c V
      have n63 : ¬ q = 63 := fun h => by simp [digB, hq, h] at hD
      have e63 : ((q : Int) == 63) = false := by simp; omega
      clear hN hR hK hL hD hq hxr h39 n120 n88 n63 hdr hdr2 hp e39p hx
      go_enter Tryd.func26, Tryd.ntmps26
      go_wp2_with (first
        | (go_at_call 44; (with_reducible refine Calls.mono (HL.out _) ?_); rintro e w5 ⟨rfl, rfl⟩)
        | (go_at_call 45; (with_reducible refine Calls.mono (HD.out _) ?_); rintro e w5 ⟨rfl, rfl⟩))
      go_loopw [8] (fun ev wr => ∃ j : Nat, a + 1 ≤ j ∧ j ≤ s.size ∧ ev = .int .i64 (j : Int) ∧ ((j + dgs (s.data.toList.drop j) : Nat) : Int) = R ∧ wr = w) (fun ev _ => s.size - (intOf ev).toNat)
      case atStart => exact ⟨a + 1, by omega, by omega, by rfl, HN.out.1, rfl⟩
      case round =>
        clear hw1 hw2 hb hb2 l0 l1 m2 m3
        obtain ⟨j, haj, hj, rfl, hrel, rfl⟩ := hrel
        by_cases hlt3 : j < s.size
        · have n1 : (j : Int) < (s.size : Int) := by omega
          have n0 : (0 : Int) ≤ (j : Int) := by omega
          have hw3 : IntKind.i64.wrap ((j : Int) + 1) = ((j + 1 : Nat) : Int) := by rw [IntKind.wrap_i64]; omega
          obtain ⟨c3, hc3⟩ : ∃ c : UInt8, s[j]'hlt3 = c := ⟨_, rfl⟩
          have hdr3 := drop_next s j hlt3
          rw [hc3] at hdr3
          rw [hdr3, dgs_cons] at hrel
          obtain ⟨q3, hq3⟩ : ∃ q, c3.toNat = q := ⟨_, rfl⟩
          have hb3 : ∀ (h : j < s.size), ((s[j]'h).toNat : Int) = (q3 : Int) := fun h => by rw [hc3, hq3]
          by_cases hD3 : digB c3 = true
          · have HD3 : Hid (∀ V, Calls Tryd.prog 45 #[.int .u8 (q3 : Int)] V fun e w' => e = .returned (.bool true) ∧ V = w') := fun V => by rw [← hD3, ← hq3]; exact digit_e c3 V
            rw [if_pos hD3] at hrel
            have HN3 := hide hrel
            clear hrel hdr3 hc3 hq3 hD3
            go_wp2_with (first
              | (go_at_call 45; (with_reducible refine Calls.mono (HD3.out _) ?_); rintro e w5 ⟨rfl, rfl⟩))
            go_roundw
            case rel => exact ⟨j + 1, by omega, by omega, rfl, by rw [← HN3.out]; omega, trivial⟩
            case measure => simp [intOf]; omega
          · rw [Bool.not_eq_true] at hD3
            have HD3 : Hid (∀ V, Calls Tryd.prog 45 #[.int .u8 (q3 : Int)] V fun e w' => e = .returned (.bool false) ∧ V = w') := fun V => by rw [← hD3, ← hq3]; exact digit_e c3 V
            rw [if_neg (by simp [hD3])] at hrel
            have HN3 := hide hrel
            clear hrel hdr3 hc3 hq3 hD3
            go_wp2_with (first
              | (go_at_call 45; (with_reducible refine Calls.mono (HD3.out _) ?_); rintro e w5 ⟨rfl, rfl⟩))
            go_ret2
            exact ⟨by rw [← HN3.out, HN.out.2]; rfl, rfl⟩
        · have hje : j = s.size := by omega
          have n1 : ¬ (s.size : Int) < (s.size : Int) := by omega
          subst hje
          rw [List.drop_of_length_le (by simp)] at hrel
          have HN3 := hide hrel
          clear hrel
          go_wp2
          go_ret2
          exact ⟨by rw [← HN3.out, HN.out.2]; rfl, rfl⟩
    rw [Bool.not_eq_true] at hD
    have HD : Hid (∀ V, Calls Tryd.prog 45 #[.int .u8 (q : Int)] V fun e w' => e = .returned (.bool false) ∧ V = w') := fun V => by rw [← hD, ← hq]; exact digit_e c V
    by_cases h63 : q = 63
    · have hN := tok_par (show c.toNat ≠ 39 by omega) hxr hL hD (hq.trans h63) a
      rw [hR, hK] at hN
      have HN := hide (show ((a + 1 + dgs (s.data.toList.drop (a + 1)) : Nat) : Int) = R ∧ K = 5 from ⟨hN.1.symm, hN.2⟩)
      subst h63
      clear hN hR hK hL hD hq hxr h39 n120 n88 hdr hdr2 hp e39p hx
      go_enter Tryd.func26, Tryd.ntmps26
      go_wp2_with (first
        | (go_at_call 44; (with_reducible refine Calls.mono (HL.out _) ?_); rintro e w5 ⟨rfl, rfl⟩)
        | (go_at_call 45; (with_reducible refine Calls.mono (HD.out _) ?_); rintro e w5 ⟨rfl, rfl⟩))
      go_loopw [8] (fun ev wr => ∃ j : Nat, a + 1 ≤ j ∧ j ≤ s.size ∧ ev = .int .i64 (j : Int) ∧ ((j + dgs (s.data.toList.drop j) : Nat) : Int) = R ∧ wr = w) (fun ev _ => s.size - (intOf ev).toNat)
      case atStart => exact ⟨a + 1, by omega, by omega, by rfl, HN.out.1, rfl⟩
      case round =>
        clear hw1 hw2 hb hb2 l0 l1 m2 m3
        obtain ⟨j, haj, hj, rfl, hrel, rfl⟩ := hrel
        by_cases hlt3 : j < s.size
        · have n1 : (j : Int) < (s.size : Int) := by omega
          have n0 : (0 : Int) ≤ (j : Int) := by omega
          have hw3 : IntKind.i64.wrap ((j : Int) + 1) = ((j + 1 : Nat) : Int) := by rw [IntKind.wrap_i64]; omega
          obtain ⟨c3, hc3⟩ : ∃ c : UInt8, s[j]'hlt3 = c := ⟨_, rfl⟩
          have hdr3 := drop_next s j hlt3
          rw [hc3] at hdr3
          rw [hdr3, dgs_cons] at hrel
          obtain ⟨q3, hq3⟩ : ∃ q, c3.toNat = q := ⟨_, rfl⟩
          have hb3 : ∀ (h : j < s.size), ((s[j]'h).toNat : Int) = (q3 : Int) := fun h => by rw [hc3, hq3]
          by_cases hD3 : digB c3 = true
          · have HD3 : Hid (∀ V, Calls Tryd.prog 45 #[.int .u8 (q3 : Int)] V fun e w' => e = .returned (.bool true) ∧ V = w') := fun V => by rw [← hD3, ← hq3]; exact digit_e c3 V
            rw [if_pos hD3] at hrel
            have HN3 := hide hrel
            clear hrel hdr3 hc3 hq3 hD3
            go_wp2_with (first
              | (go_at_call 45; (with_reducible refine Calls.mono (HD3.out _) ?_); rintro e w5 ⟨rfl, rfl⟩))
            go_roundw
            case rel => exact ⟨j + 1, by omega, by omega, rfl, by rw [← HN3.out]; omega, trivial⟩
            case measure => simp [intOf]; omega
          · rw [Bool.not_eq_true] at hD3
            have HD3 : Hid (∀ V, Calls Tryd.prog 45 #[.int .u8 (q3 : Int)] V fun e w' => e = .returned (.bool false) ∧ V = w') := fun V => by rw [← hD3, ← hq3]; exact digit_e c3 V
            rw [if_neg (by simp [hD3])] at hrel
            have HN3 := hide hrel
            clear hrel hdr3 hc3 hq3 hD3
            go_wp2_with (first
              | (go_at_call 45; (with_reducible refine Calls.mono (HD3.out _) ?_); rintro e w5 ⟨rfl, rfl⟩))
            go_ret2
            exact ⟨by rw [← HN3.out, HN.out.2]; rfl, rfl⟩
        · have hje : j = s.size := by omega
          have n1 : ¬ (s.size : Int) < (s.size : Int) := by omega
          subst hje
          rw [List.drop_of_length_le (by simp)] at hrel
          have HN3 := hide hrel
          clear hrel
          go_wp2
          go_ret2
          exact ⟨by rw [← HN3.out, HN.out.2]; rfl, rfl⟩
    have e63 : ((q : Int) == 63) = false := by simp; omega
    by_cases hP : paiB c d = true
    · have hN := tok_pair (r := s.data.toList.drop (a + 1 + 1)) (show c.toNat ≠ 39 by omega) (by omega) hL hD (by omega) hP a
      rw [← hdr2, hR, hK] at hN
      have HN := hide hN
      have HP : Hid (∀ V, Calls Tryd.prog 46 #[.int .u8 (q : Int), .int .u8 (p : Int)] V fun e w' => e = .returned (.bool true) ∧ V = w') := fun V => by rw [← hP, ← hq, ← hp]; exact pair_e c d V
      clear hN hR hK hL hD hP hq hp hxr h39 h63 n120 n88 hdr hdr2 e39p hx
      go_enter Tryd.func26, Tryd.ntmps26
      go_wp2_with (first
        | (go_at_call 44; (with_reducible refine Calls.mono (HL.out _) ?_); rintro e w5 ⟨rfl, rfl⟩)
        | (go_at_call 45; (with_reducible refine Calls.mono (HD.out _) ?_); rintro e w5 ⟨rfl, rfl⟩)
        | (go_at_call 46; (with_reducible refine Calls.mono (HP.out _) ?_); rintro e w5 ⟨rfl, rfl⟩))
      go_ret2
      exact ⟨by rw [HN.out.1, HN.out.2]; rfl, rfl⟩
    rw [Bool.not_eq_true] at hP
    have HP : Hid (∀ V, Calls Tryd.prog 46 #[.int .u8 (q : Int), .int .u8 (p : Int)] V fun e w' => e = .returned (.bool false) ∧ V = w') := fun V => by rw [← hP, ← hq, ← hp]; exact pair_e c d V
    have hpr : ((s.data.toList.drop (a + 1)).head?.map (paiB c)).getD false = false := by rw [hdr2]; simpa using hP
    by_cases hS : sinB c = true
    · have hN := tok_sing (show c.toNat ≠ 39 by omega) (by omega) hL hD (by omega) hpr hS a
      rw [hR, hK] at hN
      have HN := hide hN
      have HS : Hid (∀ V, Calls Tryd.prog 47 #[.int .u8 (q : Int)] V fun e w' => e = .returned (.bool true) ∧ V = w') := fun V => by rw [← hS, ← hq]; exact single_e c V
      clear hN hR hK hL hD hP hpr hS hq hp hxr h39 h63 n120 n88 hdr hdr2 e39p hx
      go_enter Tryd.func26, Tryd.ntmps26
      go_wp2_with (first
        | (go_at_call 44; (with_reducible refine Calls.mono (HL.out _) ?_); rintro e w5 ⟨rfl, rfl⟩)
        | (go_at_call 45; (with_reducible refine Calls.mono (HD.out _) ?_); rintro e w5 ⟨rfl, rfl⟩)
        | (go_at_call 46; (with_reducible refine Calls.mono (HP.out _) ?_); rintro e w5 ⟨rfl, rfl⟩)
        | (go_at_call 47; (with_reducible refine Calls.mono (HS.out _) ?_); rintro e w5 ⟨rfl, rfl⟩))
      go_ret2
      exact ⟨by rw [HN.out.1, HN.out.2]; rfl, rfl⟩
    · rw [Bool.not_eq_true] at hS
      have hN := tok_none (show c.toNat ≠ 39 by omega) (by omega) hL hD (by omega) hpr hS a
      rw [hR, hK] at hN
      have HN := hide hN
      have HS : Hid (∀ V, Calls Tryd.prog 47 #[.int .u8 (q : Int)] V fun e w' => e = .returned (.bool false) ∧ V = w') := fun V => by rw [← hS, ← hq]; exact single_e c V
      clear hN hR hK hL hD hP hpr hS hq hp hxr h39 h63 n120 n88 hdr hdr2 e39p hx
      go_enter Tryd.func26, Tryd.ntmps26
      go_wp2_with (first
        | (go_at_call 44; (with_reducible refine Calls.mono (HL.out _) ?_); rintro e w5 ⟨rfl, rfl⟩)
        | (go_at_call 45; (with_reducible refine Calls.mono (HD.out _) ?_); rintro e w5 ⟨rfl, rfl⟩)
        | (go_at_call 46; (with_reducible refine Calls.mono (HP.out _) ?_); rintro e w5 ⟨rfl, rfl⟩)
        | (go_at_call 47; (with_reducible refine Calls.mono (HS.out _) ?_); rintro e w5 ⟨rfl, rfl⟩))
      go_ret2
      exact ⟨by rw [HN.out.1, HN.out.2]; rfl, rfl⟩
  · have m2 : ¬ ((a + 1 : Nat) : Int) < (s.size : Int) := by omega
    have hdr2 : s.data.toList.drop (a + 1) = [] := List.drop_of_length_le (by simp; omega)
    by_cases h39 : q = 39
    · have hN := tok_text (r := s.data.toList.drop (a + 1)) (hq.trans h39) a
      rw [hR, hK] at hN
      subst h39
      have HN := hide hN
      clear hN hR hK hq hdr hdr2
      go_enter Tryd.func26, Tryd.ntmps26
      go_wp2_with (first
        | (go_at_call 42; (with_reducible refine Calls.mono (HQ.out _) ?_); rintro e w5 ⟨rfl, rfl⟩))
      go_ret2
      exact ⟨by rw [HN.out.1, HN.out.2]; rfl, rfl⟩
    have e39 : ((q : Int) == 39) = false := by simp; omega
    have hxr : ¬ ((c.toNat = 120 ∨ c.toNat = 88) ∧ ((s.data.toList.drop (a + 1)).head?.map UInt8.toNat) = some 39) := by rw [hdr2]; simp
    by_cases hL : letB c = true
    · have hN := tok_word (show c.toNat ≠ 39 by omega) hxr hL a
      rw [hR, hK] at hN
      have HN := hide (show ((a + 1 + wrd (s.data.toList.drop (a + 1)) : Nat) : Int) = R ∧ K = 1 from ⟨hN.1.symm, hN.2⟩)
      have HL : Hid (∀ V, Calls Tryd.prog 44 #[.int .u8 (q : Int)] V fun e w' => e = .returned (.bool true) ∧ V = w') := fun V => by rw [← hL, ← hq]; exact letter_e c V
      by_cases hxx : q = 120
      · subst hxx
        clear hN hR hK hL hq hxr h39 hdr hdr2
        go_enter Tryd.func26, Tryd.ntmps26
        go_wp2_with (first
          | (go_at_call 44; (with_reducible refine Calls.mono (HL.out _) ?_); rintro e w5 ⟨rfl, rfl⟩))
        go_loopw [8] (fun ev wr => ∃ j : Nat, a + 1 ≤ j ∧ j ≤ s.size ∧ ev = .int .i64 (j : Int) ∧ ((j + wrd (s.data.toList.drop j) : Nat) : Int) = R ∧ wr = w) (fun ev _ => s.size - (intOf ev).toNat)
        case atStart => exact ⟨a + 1, by omega, by omega, by rfl, HN.out.1, rfl⟩
        case round =>
          clear hw1 hw2 hb l0 l1 m2
          obtain ⟨j, haj, hj, rfl, hrel, rfl⟩ := hrel
          by_cases hlt3 : j < s.size
          · have n1 : (j : Int) < (s.size : Int) := by omega
            have n0 : (0 : Int) ≤ (j : Int) := by omega
            have hw3 : IntKind.i64.wrap ((j : Int) + 1) = ((j + 1 : Nat) : Int) := by rw [IntKind.wrap_i64]; omega
            obtain ⟨c3, hc3⟩ : ∃ c : UInt8, s[j]'hlt3 = c := ⟨_, rfl⟩
            have hdr3 := drop_next s j hlt3
            rw [hc3] at hdr3
            rw [hdr3, wrd_cons] at hrel
            obtain ⟨q3, hq3⟩ : ∃ q, c3.toNat = q := ⟨_, rfl⟩
            have hb3 : ∀ (h : j < s.size), ((s[j]'h).toNat : Int) = (q3 : Int) := fun h => by rw [hc3, hq3]
            by_cases hL3 : letB c3 = true
            · have HL3 : Hid (∀ V, Calls Tryd.prog 44 #[.int .u8 (q3 : Int)] V fun e w' => e = .returned (.bool true) ∧ V = w') := fun V => by rw [← hL3, ← hq3]; exact letter_e c3 V
              rw [if_pos (by simp [hL3])] at hrel
              have HN3 := hide hrel
              clear hrel hdr3 hc3 hq3 hL3
              go_wp2_with (first
                | (go_at_call 44; (with_reducible refine Calls.mono (HL3.out _) ?_); rintro e w5 ⟨rfl, rfl⟩))
              go_roundw
              case rel => exact ⟨j + 1, by omega, by omega, rfl, by rw [← HN3.out]; omega, trivial⟩
              case measure => simp [intOf]; omega
            · rw [Bool.not_eq_true] at hL3
              have HL3 : Hid (∀ V, Calls Tryd.prog 44 #[.int .u8 (q3 : Int)] V fun e w' => e = .returned (.bool false) ∧ V = w') := fun V => by rw [← hL3, ← hq3]; exact letter_e c3 V
              by_cases hD3 : digB c3 = true
              · have HD3 : Hid (∀ V, Calls Tryd.prog 45 #[.int .u8 (q3 : Int)] V fun e w' => e = .returned (.bool true) ∧ V = w') := fun V => by rw [← hD3, ← hq3]; exact digit_e c3 V
                rw [if_pos (by simp [hD3])] at hrel
                have HN3 := hide hrel
                clear hrel hdr3 hc3 hq3 hL3 hD3
                go_wp2_with (first
                  | (go_at_call 44; (with_reducible refine Calls.mono (HL3.out _) ?_); rintro e w5 ⟨rfl, rfl⟩)
                  | (go_at_call 45; (with_reducible refine Calls.mono (HD3.out _) ?_); rintro e w5 ⟨rfl, rfl⟩))
                go_roundw
                case rel => exact ⟨j + 1, by omega, by omega, rfl, by rw [← HN3.out]; omega, trivial⟩
                case measure => simp [intOf]; omega
              · rw [Bool.not_eq_true] at hD3
                have HD3 : Hid (∀ V, Calls Tryd.prog 45 #[.int .u8 (q3 : Int)] V fun e w' => e = .returned (.bool false) ∧ V = w') := fun V => by rw [← hD3, ← hq3]; exact digit_e c3 V
                rw [if_neg (by simp [hL3, hD3])] at hrel
                have HN3 := hide hrel
                clear hrel hdr3 hc3 hq3 hL3 hD3
                go_wp2_with (first
                  | (go_at_call 44; (with_reducible refine Calls.mono (HL3.out _) ?_); rintro e w5 ⟨rfl, rfl⟩)
                  | (go_at_call 45; (with_reducible refine Calls.mono (HD3.out _) ?_); rintro e w5 ⟨rfl, rfl⟩))
                go_ret2
                exact ⟨by rw [← HN3.out, HN.out.2]; rfl, rfl⟩
          · have hje : j = s.size := by omega
            have n1 : ¬ (s.size : Int) < (s.size : Int) := by omega
            subst hje
            rw [List.drop_of_length_le (by simp)] at hrel
            have HN3 := hide hrel
            clear hrel
            go_wp2
            go_ret2
            exact ⟨by rw [← HN3.out, HN.out.2]; rfl, rfl⟩
      by_cases hxx : q = 88
      · subst hxx
        clear hN hR hK hL hq hxr h39 hdr hdr2
        go_enter Tryd.func26, Tryd.ntmps26
        go_wp2_with (first
          | (go_at_call 44; (with_reducible refine Calls.mono (HL.out _) ?_); rintro e w5 ⟨rfl, rfl⟩))
        go_loopw [8] (fun ev wr => ∃ j : Nat, a + 1 ≤ j ∧ j ≤ s.size ∧ ev = .int .i64 (j : Int) ∧ ((j + wrd (s.data.toList.drop j) : Nat) : Int) = R ∧ wr = w) (fun ev _ => s.size - (intOf ev).toNat)
        case atStart => exact ⟨a + 1, by omega, by omega, by rfl, HN.out.1, rfl⟩
        case round =>
          clear hw1 hw2 hb l0 l1 m2
          obtain ⟨j, haj, hj, rfl, hrel, rfl⟩ := hrel
          by_cases hlt3 : j < s.size
          · have n1 : (j : Int) < (s.size : Int) := by omega
            have n0 : (0 : Int) ≤ (j : Int) := by omega
            have hw3 : IntKind.i64.wrap ((j : Int) + 1) = ((j + 1 : Nat) : Int) := by rw [IntKind.wrap_i64]; omega
            obtain ⟨c3, hc3⟩ : ∃ c : UInt8, s[j]'hlt3 = c := ⟨_, rfl⟩
            have hdr3 := drop_next s j hlt3
            rw [hc3] at hdr3
            rw [hdr3, wrd_cons] at hrel
            obtain ⟨q3, hq3⟩ : ∃ q, c3.toNat = q := ⟨_, rfl⟩
            have hb3 : ∀ (h : j < s.size), ((s[j]'h).toNat : Int) = (q3 : Int) := fun h => by rw [hc3, hq3]
            by_cases hL3 : letB c3 = true
            · have HL3 : Hid (∀ V, Calls Tryd.prog 44 #[.int .u8 (q3 : Int)] V fun e w' => e = .returned (.bool true) ∧ V = w') := fun V => by rw [← hL3, ← hq3]; exact letter_e c3 V
              rw [if_pos (by simp [hL3])] at hrel
              have HN3 := hide hrel
              clear hrel hdr3 hc3 hq3 hL3
              go_wp2_with (first
                | (go_at_call 44; (with_reducible refine Calls.mono (HL3.out _) ?_); rintro e w5 ⟨rfl, rfl⟩))
              go_roundw
              case rel => exact ⟨j + 1, by omega, by omega, rfl, by rw [← HN3.out]; omega, trivial⟩
              case measure => simp [intOf]; omega
            · rw [Bool.not_eq_true] at hL3
              have HL3 : Hid (∀ V, Calls Tryd.prog 44 #[.int .u8 (q3 : Int)] V fun e w' => e = .returned (.bool false) ∧ V = w') := fun V => by rw [← hL3, ← hq3]; exact letter_e c3 V
              by_cases hD3 : digB c3 = true
              · have HD3 : Hid (∀ V, Calls Tryd.prog 45 #[.int .u8 (q3 : Int)] V fun e w' => e = .returned (.bool true) ∧ V = w') := fun V => by rw [← hD3, ← hq3]; exact digit_e c3 V
                rw [if_pos (by simp [hD3])] at hrel
                have HN3 := hide hrel
                clear hrel hdr3 hc3 hq3 hL3 hD3
                go_wp2_with (first
                  | (go_at_call 44; (with_reducible refine Calls.mono (HL3.out _) ?_); rintro e w5 ⟨rfl, rfl⟩)
                  | (go_at_call 45; (with_reducible refine Calls.mono (HD3.out _) ?_); rintro e w5 ⟨rfl, rfl⟩))
                go_roundw
                case rel => exact ⟨j + 1, by omega, by omega, rfl, by rw [← HN3.out]; omega, trivial⟩
                case measure => simp [intOf]; omega
              · rw [Bool.not_eq_true] at hD3
                have HD3 : Hid (∀ V, Calls Tryd.prog 45 #[.int .u8 (q3 : Int)] V fun e w' => e = .returned (.bool false) ∧ V = w') := fun V => by rw [← hD3, ← hq3]; exact digit_e c3 V
                rw [if_neg (by simp [hL3, hD3])] at hrel
                have HN3 := hide hrel
                clear hrel hdr3 hc3 hq3 hL3 hD3
                go_wp2_with (first
                  | (go_at_call 44; (with_reducible refine Calls.mono (HL3.out _) ?_); rintro e w5 ⟨rfl, rfl⟩)
                  | (go_at_call 45; (with_reducible refine Calls.mono (HD3.out _) ?_); rintro e w5 ⟨rfl, rfl⟩))
                go_ret2
                exact ⟨by rw [← HN3.out, HN.out.2]; rfl, rfl⟩
          · have hje : j = s.size := by omega
            have n1 : ¬ (s.size : Int) < (s.size : Int) := by omega
            subst hje
            rw [List.drop_of_length_le (by simp)] at hrel
            have HN3 := hide hrel
            clear hrel
            go_wp2
            go_ret2
            exact ⟨by rw [← HN3.out, HN.out.2]; rfl, rfl⟩
      have e120 : ((q : Int) == 120) = false := by simp; omega
      have e88 : ((q : Int) == 88) = false := by simp; omega
      clear hxx
      clear hN hR hK hL hq hxr h39 hdr hdr2
      go_enter Tryd.func26, Tryd.ntmps26
      go_wp2_with (first
        | (go_at_call 44; (with_reducible refine Calls.mono (HL.out _) ?_); rintro e w5 ⟨rfl, rfl⟩))
      go_loopw [8] (fun ev wr => ∃ j : Nat, a + 1 ≤ j ∧ j ≤ s.size ∧ ev = .int .i64 (j : Int) ∧ ((j + wrd (s.data.toList.drop j) : Nat) : Int) = R ∧ wr = w) (fun ev _ => s.size - (intOf ev).toNat)
      case atStart => exact ⟨a + 1, by omega, by omega, by rfl, HN.out.1, rfl⟩
      case round =>
        clear hw1 hw2 hb l0 l1 m2
        obtain ⟨j, haj, hj, rfl, hrel, rfl⟩ := hrel
        by_cases hlt3 : j < s.size
        · have n1 : (j : Int) < (s.size : Int) := by omega
          have n0 : (0 : Int) ≤ (j : Int) := by omega
          have hw3 : IntKind.i64.wrap ((j : Int) + 1) = ((j + 1 : Nat) : Int) := by rw [IntKind.wrap_i64]; omega
          obtain ⟨c3, hc3⟩ : ∃ c : UInt8, s[j]'hlt3 = c := ⟨_, rfl⟩
          have hdr3 := drop_next s j hlt3
          rw [hc3] at hdr3
          rw [hdr3, wrd_cons] at hrel
          obtain ⟨q3, hq3⟩ : ∃ q, c3.toNat = q := ⟨_, rfl⟩
          have hb3 : ∀ (h : j < s.size), ((s[j]'h).toNat : Int) = (q3 : Int) := fun h => by rw [hc3, hq3]
          by_cases hL3 : letB c3 = true
          · have HL3 : Hid (∀ V, Calls Tryd.prog 44 #[.int .u8 (q3 : Int)] V fun e w' => e = .returned (.bool true) ∧ V = w') := fun V => by rw [← hL3, ← hq3]; exact letter_e c3 V
            rw [if_pos (by simp [hL3])] at hrel
            have HN3 := hide hrel
            clear hrel hdr3 hc3 hq3 hL3
            go_wp2_with (first
              | (go_at_call 44; (with_reducible refine Calls.mono (HL3.out _) ?_); rintro e w5 ⟨rfl, rfl⟩))
            go_roundw
            case rel => exact ⟨j + 1, by omega, by omega, rfl, by rw [← HN3.out]; omega, trivial⟩
            case measure => simp [intOf]; omega
          · rw [Bool.not_eq_true] at hL3
            have HL3 : Hid (∀ V, Calls Tryd.prog 44 #[.int .u8 (q3 : Int)] V fun e w' => e = .returned (.bool false) ∧ V = w') := fun V => by rw [← hL3, ← hq3]; exact letter_e c3 V
            by_cases hD3 : digB c3 = true
            · have HD3 : Hid (∀ V, Calls Tryd.prog 45 #[.int .u8 (q3 : Int)] V fun e w' => e = .returned (.bool true) ∧ V = w') := fun V => by rw [← hD3, ← hq3]; exact digit_e c3 V
              rw [if_pos (by simp [hD3])] at hrel
              have HN3 := hide hrel
              clear hrel hdr3 hc3 hq3 hL3 hD3
              go_wp2_with (first
                | (go_at_call 44; (with_reducible refine Calls.mono (HL3.out _) ?_); rintro e w5 ⟨rfl, rfl⟩)
                | (go_at_call 45; (with_reducible refine Calls.mono (HD3.out _) ?_); rintro e w5 ⟨rfl, rfl⟩))
              go_roundw
              case rel => exact ⟨j + 1, by omega, by omega, rfl, by rw [← HN3.out]; omega, trivial⟩
              case measure => simp [intOf]; omega
            · rw [Bool.not_eq_true] at hD3
              have HD3 : Hid (∀ V, Calls Tryd.prog 45 #[.int .u8 (q3 : Int)] V fun e w' => e = .returned (.bool false) ∧ V = w') := fun V => by rw [← hD3, ← hq3]; exact digit_e c3 V
              rw [if_neg (by simp [hL3, hD3])] at hrel
              have HN3 := hide hrel
              clear hrel hdr3 hc3 hq3 hL3 hD3
              go_wp2_with (first
                | (go_at_call 44; (with_reducible refine Calls.mono (HL3.out _) ?_); rintro e w5 ⟨rfl, rfl⟩)
                | (go_at_call 45; (with_reducible refine Calls.mono (HD3.out _) ?_); rintro e w5 ⟨rfl, rfl⟩))
              go_ret2
              exact ⟨by rw [← HN3.out, HN.out.2]; rfl, rfl⟩
        · have hje : j = s.size := by omega
          have n1 : ¬ (s.size : Int) < (s.size : Int) := by omega
          subst hje
          rw [List.drop_of_length_le (by simp)] at hrel
          have HN3 := hide hrel
          clear hrel
          go_wp2
          go_ret2
          exact ⟨by rw [← HN3.out, HN.out.2]; rfl, rfl⟩
    rw [Bool.not_eq_true] at hL
    have HL : Hid (∀ V, Calls Tryd.prog 44 #[.int .u8 (q : Int)] V fun e w' => e = .returned (.bool false) ∧ V = w') := fun V => by rw [← hL, ← hq]; exact letter_e c V
    have n120 : ¬ q = 120 := fun h => by simp [letB, hq, h] at hL
    have n88 : ¬ q = 88 := fun h => by simp [letB, hq, h] at hL
    have e120 : ((q : Int) == 120) = false := by simp; omega
    have e88 : ((q : Int) == 88) = false := by simp; omega
    by_cases hD : digB c = true
    · have hN := tok_int (show c.toNat ≠ 39 by omega) hxr hL hD a
      rw [hR, hK] at hN
      have HN := hide (show ((a + 1 + dgs (s.data.toList.drop (a + 1)) : Nat) : Int) = R ∧ K = 2 from ⟨hN.1.symm, hN.2⟩)
      have HD : Hid (∀ V, Calls Tryd.prog 45 #[.int .u8 (q : Int)] V fun e w' => e = .returned (.bool true) ∧ V = w') := fun V => by rw [← hD, ← hq]; exact digit_e c V
      have n63 : ¬ q = 63 := fun h => by simp [digB, hq, h] at hD
      have e63 : ((q : Int) == 63) = false := by simp; omega
      clear hN hR hK hL hD hq hxr h39 n120 n88 n63 hdr hdr2
      go_enter Tryd.func26, Tryd.ntmps26
      go_wp2_with (first
        | (go_at_call 44; (with_reducible refine Calls.mono (HL.out _) ?_); rintro e w5 ⟨rfl, rfl⟩)
        | (go_at_call 45; (with_reducible refine Calls.mono (HD.out _) ?_); rintro e w5 ⟨rfl, rfl⟩))
      go_loopw [8] (fun ev wr => ∃ j : Nat, a + 1 ≤ j ∧ j ≤ s.size ∧ ev = .int .i64 (j : Int) ∧ ((j + dgs (s.data.toList.drop j) : Nat) : Int) = R ∧ wr = w) (fun ev _ => s.size - (intOf ev).toNat)
      case atStart => exact ⟨a + 1, by omega, by omega, by rfl, HN.out.1, rfl⟩
      case round =>
        clear hw1 hw2 hb l0 l1 m2
        obtain ⟨j, haj, hj, rfl, hrel, rfl⟩ := hrel
        by_cases hlt3 : j < s.size
        · have n1 : (j : Int) < (s.size : Int) := by omega
          have n0 : (0 : Int) ≤ (j : Int) := by omega
          have hw3 : IntKind.i64.wrap ((j : Int) + 1) = ((j + 1 : Nat) : Int) := by rw [IntKind.wrap_i64]; omega
          obtain ⟨c3, hc3⟩ : ∃ c : UInt8, s[j]'hlt3 = c := ⟨_, rfl⟩
          have hdr3 := drop_next s j hlt3
          rw [hc3] at hdr3
          rw [hdr3, dgs_cons] at hrel
          obtain ⟨q3, hq3⟩ : ∃ q, c3.toNat = q := ⟨_, rfl⟩
          have hb3 : ∀ (h : j < s.size), ((s[j]'h).toNat : Int) = (q3 : Int) := fun h => by rw [hc3, hq3]
          by_cases hD3 : digB c3 = true
          · have HD3 : Hid (∀ V, Calls Tryd.prog 45 #[.int .u8 (q3 : Int)] V fun e w' => e = .returned (.bool true) ∧ V = w') := fun V => by rw [← hD3, ← hq3]; exact digit_e c3 V
            rw [if_pos hD3] at hrel
            have HN3 := hide hrel
            clear hrel hdr3 hc3 hq3 hD3
            go_wp2_with (first
              | (go_at_call 45; (with_reducible refine Calls.mono (HD3.out _) ?_); rintro e w5 ⟨rfl, rfl⟩))
            go_roundw
            case rel => exact ⟨j + 1, by omega, by omega, rfl, by rw [← HN3.out]; omega, trivial⟩
            case measure => simp [intOf]; omega
          · rw [Bool.not_eq_true] at hD3
            have HD3 : Hid (∀ V, Calls Tryd.prog 45 #[.int .u8 (q3 : Int)] V fun e w' => e = .returned (.bool false) ∧ V = w') := fun V => by rw [← hD3, ← hq3]; exact digit_e c3 V
            rw [if_neg (by simp [hD3])] at hrel
            have HN3 := hide hrel
            clear hrel hdr3 hc3 hq3 hD3
            go_wp2_with (first
              | (go_at_call 45; (with_reducible refine Calls.mono (HD3.out _) ?_); rintro e w5 ⟨rfl, rfl⟩))
            go_ret2
            exact ⟨by rw [← HN3.out, HN.out.2]; rfl, rfl⟩
        · have hje : j = s.size := by omega
          have n1 : ¬ (s.size : Int) < (s.size : Int) := by omega
          subst hje
          rw [List.drop_of_length_le (by simp)] at hrel
          have HN3 := hide hrel
          clear hrel
          go_wp2
          go_ret2
          exact ⟨by rw [← HN3.out, HN.out.2]; rfl, rfl⟩
    rw [Bool.not_eq_true] at hD
    have HD : Hid (∀ V, Calls Tryd.prog 45 #[.int .u8 (q : Int)] V fun e w' => e = .returned (.bool false) ∧ V = w') := fun V => by rw [← hD, ← hq]; exact digit_e c V
    by_cases h63 : q = 63
    · have hN := tok_par (show c.toNat ≠ 39 by omega) hxr hL hD (hq.trans h63) a
      rw [hR, hK] at hN
      have HN := hide (show ((a + 1 + dgs (s.data.toList.drop (a + 1)) : Nat) : Int) = R ∧ K = 5 from ⟨hN.1.symm, hN.2⟩)
      subst h63
      clear hN hR hK hL hD hq hxr h39 n120 n88 hdr hdr2
      go_enter Tryd.func26, Tryd.ntmps26
      go_wp2_with (first
        | (go_at_call 44; (with_reducible refine Calls.mono (HL.out _) ?_); rintro e w5 ⟨rfl, rfl⟩)
        | (go_at_call 45; (with_reducible refine Calls.mono (HD.out _) ?_); rintro e w5 ⟨rfl, rfl⟩))
      go_loopw [8] (fun ev wr => ∃ j : Nat, a + 1 ≤ j ∧ j ≤ s.size ∧ ev = .int .i64 (j : Int) ∧ ((j + dgs (s.data.toList.drop j) : Nat) : Int) = R ∧ wr = w) (fun ev _ => s.size - (intOf ev).toNat)
      case atStart => exact ⟨a + 1, by omega, by omega, by rfl, HN.out.1, rfl⟩
      case round =>
        clear hw1 hw2 hb l0 l1 m2
        obtain ⟨j, haj, hj, rfl, hrel, rfl⟩ := hrel
        by_cases hlt3 : j < s.size
        · have n1 : (j : Int) < (s.size : Int) := by omega
          have n0 : (0 : Int) ≤ (j : Int) := by omega
          have hw3 : IntKind.i64.wrap ((j : Int) + 1) = ((j + 1 : Nat) : Int) := by rw [IntKind.wrap_i64]; omega
          obtain ⟨c3, hc3⟩ : ∃ c : UInt8, s[j]'hlt3 = c := ⟨_, rfl⟩
          have hdr3 := drop_next s j hlt3
          rw [hc3] at hdr3
          rw [hdr3, dgs_cons] at hrel
          obtain ⟨q3, hq3⟩ : ∃ q, c3.toNat = q := ⟨_, rfl⟩
          have hb3 : ∀ (h : j < s.size), ((s[j]'h).toNat : Int) = (q3 : Int) := fun h => by rw [hc3, hq3]
          by_cases hD3 : digB c3 = true
          · have HD3 : Hid (∀ V, Calls Tryd.prog 45 #[.int .u8 (q3 : Int)] V fun e w' => e = .returned (.bool true) ∧ V = w') := fun V => by rw [← hD3, ← hq3]; exact digit_e c3 V
            rw [if_pos hD3] at hrel
            have HN3 := hide hrel
            clear hrel hdr3 hc3 hq3 hD3
            go_wp2_with (first
              | (go_at_call 45; (with_reducible refine Calls.mono (HD3.out _) ?_); rintro e w5 ⟨rfl, rfl⟩))
            go_roundw
            case rel => exact ⟨j + 1, by omega, by omega, rfl, by rw [← HN3.out]; omega, trivial⟩
            case measure => simp [intOf]; omega
          · rw [Bool.not_eq_true] at hD3
            have HD3 : Hid (∀ V, Calls Tryd.prog 45 #[.int .u8 (q3 : Int)] V fun e w' => e = .returned (.bool false) ∧ V = w') := fun V => by rw [← hD3, ← hq3]; exact digit_e c3 V
            rw [if_neg (by simp [hD3])] at hrel
            have HN3 := hide hrel
            clear hrel hdr3 hc3 hq3 hD3
            go_wp2_with (first
              | (go_at_call 45; (with_reducible refine Calls.mono (HD3.out _) ?_); rintro e w5 ⟨rfl, rfl⟩))
            go_ret2
            exact ⟨by rw [← HN3.out, HN.out.2]; rfl, rfl⟩
        · have hje : j = s.size := by omega
          have n1 : ¬ (s.size : Int) < (s.size : Int) := by omega
          subst hje
          rw [List.drop_of_length_le (by simp)] at hrel
          have HN3 := hide hrel
          clear hrel
          go_wp2
          go_ret2
          exact ⟨by rw [← HN3.out, HN.out.2]; rfl, rfl⟩
    have e63 : ((q : Int) == 63) = false := by simp; omega
    have hpr : ((s.data.toList.drop (a + 1)).head?.map (paiB c)).getD false = false := by rw [hdr2]; rfl
    by_cases hS : sinB c = true
    · have hN := tok_sing (show c.toNat ≠ 39 by omega) (by omega) hL hD (by omega) hpr hS a
      rw [hR, hK] at hN
      have HN := hide hN
      have HS : Hid (∀ V, Calls Tryd.prog 47 #[.int .u8 (q : Int)] V fun e w' => e = .returned (.bool true) ∧ V = w') := fun V => by rw [← hS, ← hq]; exact single_e c V
      clear hN hR hK hL hD hpr hS hq hxr h39 h63 n120 n88 hdr hdr2
      go_enter Tryd.func26, Tryd.ntmps26
      go_wp2_with (first
        | (go_at_call 44; (with_reducible refine Calls.mono (HL.out _) ?_); rintro e w5 ⟨rfl, rfl⟩)
        | (go_at_call 45; (with_reducible refine Calls.mono (HD.out _) ?_); rintro e w5 ⟨rfl, rfl⟩)
        | (go_at_call 47; (with_reducible refine Calls.mono (HS.out _) ?_); rintro e w5 ⟨rfl, rfl⟩))
      go_ret2
      exact ⟨by rw [HN.out.1, HN.out.2]; rfl, rfl⟩
    · rw [Bool.not_eq_true] at hS
      have hN := tok_none (show c.toNat ≠ 39 by omega) (by omega) hL hD (by omega) hpr hS a
      rw [hR, hK] at hN
      have HN := hide hN
      have HS : Hid (∀ V, Calls Tryd.prog 47 #[.int .u8 (q : Int)] V fun e w' => e = .returned (.bool false) ∧ V = w') := fun V => by rw [← hS, ← hq]; exact single_e c V
      clear hN hR hK hL hD hpr hS hq hxr h39 h63 n120 n88 hdr hdr2
      go_enter Tryd.func26, Tryd.ntmps26
      go_wp2_with (first
        | (go_at_call 44; (with_reducible refine Calls.mono (HL.out _) ?_); rintro e w5 ⟨rfl, rfl⟩)
        | (go_at_call 45; (with_reducible refine Calls.mono (HD.out _) ?_); rintro e w5 ⟨rfl, rfl⟩)
        | (go_at_call 47; (with_reducible refine Calls.mono (HS.out _) ?_); rintro e w5 ⟨rfl, rfl⟩))
      go_ret2
      exact ⟨by rw [HN.out.1, HN.out.2]; rfl, rfl⟩
end Go.Proofs.YtkooijhdjjdigaaDoor
