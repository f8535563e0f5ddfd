/- The program's own sizes of texts and signs; which kind is measured how; the kind that a token begins. -/
import Derived.Test.YtkooijhdjjdigaaDoorCE
import Derived.WalkMore
namespace Go.Proofs.YtkooijhdjjdigaaDoor
open Go.ChangeShapes Go.WideShapes Go.ChangeAt Go.RowKit Go.Shelf
set_option linter.unusedVariables false

theorem text_size (s : ByteArray) (hs : s.size ≤ 140737488355328) (h1 : 1 ≤ s.size) (w : World) :
    Calls Tryd.prog 70 #[.string s] w fun e w' => e = .returned (.int .i64 (siz 3 s.data.toList : Int)) ∧ w = w' := by
  have eR : siz 3 s.data.toList = (match (quo (s.data.toList.drop 1)).map (· + 1) with | some n => n | none => 0) := by
    show (match quo (s.data.toList.drop 1) with | some n => n + 1 | none => 0) = _
    cases quo (s.data.toList.drop 1) <;> rfl
  rw [eR]
  obtain ⟨O, hO⟩ : ∃ O, (quo (s.data.toList.drop 1)).map (· + 1) = O := ⟨_, rfl⟩
  rw [hO]
  have HO := hide hO
  clear hO eR
  go_enter Tryd.func70, Tryd.ntmps70
  go_wp2
  go_step3
  go_wp2
  go_step3
  go_wp2
  go_loopw [3] (fun iv wr => ∃ j : Nat, 1 ≤ j ∧ j ≤ s.size ∧ iv = .int .i64 (j : Int) ∧ (quo (s.data.toList.drop j)).map (· + j) = O ∧ wr = w) (fun iv _ => s.size - (intOf iv).toNat)
  case atStart => exact ⟨1, Nat.le_refl _, h1, rfl, HO.out, rfl⟩
  case round =>
    obtain ⟨j, hj1, hj, rfl, hrel, rfl⟩ := hrel
    by_cases hlt : j < s.size
    · have l1 : (j : Int) < (s.size : Int) := by omega
      have l2 : (j : Int) ≤ (s.size : Int) := by omega
      have l3 : ¬ (s.size : Int) ≤ (j : Int) := by omega
      have l0 : (0 : Int) ≤ (j : Int) := by omega
      have hw1 : IntKind.i64.wrap ((j : Int) + 1) = ((j + 1 : Nat) : Int) := by rw [IntKind.wrap_i64]; omega
      obtain ⟨c, hc⟩ : ∃ c : UInt8, s[j]'hlt = c := ⟨_, rfl⟩
      have hdr := drop_next s j hlt
      rw [hc] at hdr
      obtain ⟨r, hr⟩ : ∃ r, s.data.toList.drop (j + 1) = r := ⟨_, rfl⟩
      rw [hr] at hdr
      rw [hdr] at hrel
      obtain ⟨q, hq⟩ : ∃ q, c.toNat = q := ⟨_, rfl⟩
      have hb : ∀ (h : j < s.size), ((s[j]'h).toNat : Int) = (q : Int) := fun h => by rw [hc, hq]
      have HP := hide (fun V => Tryd.strings_HasPrefix (s.extract j s.size) ⟨#[39, 39]⟩ V)
      have e2 : Lib.hasPrefix (s.extract j s.size).data.toList (⟨#[39, 39]⟩ : ByteArray).data.toList = decide (c.toNat = 39 ∧ r.head?.map UInt8.toNat = some 39) := by
        rw [ext_drop, hdr]; exact pre_two c r 39 39
      rw [e2] at HP
      clear e2
      by_cases h2 : c.toNat = 39 ∧ r.head?.map UInt8.toNat = some 39
      · rw [decide_eq_true h2] at HP
        cases r with
        | nil => simp at h2
        | cons d r2 =>
          have hl2 : j + 1 < s.size := by
            have := congrArg List.length hr
            simp at this; omega
          have hd2 := drop_next s (j + 1) hl2
          rw [hr] at hd2
          have hd3 : s.data.toList.drop (j + 1 + 1) = r2 := (List.cons.inj hd2).2.symm
          have hw2 : IntKind.i64.wrap (((j + 1 : Nat) : Int) + 1) = ((j + 1 + 1 : Nat) : Int) := by rw [IntKind.wrap_i64]; omega
          rw [quo_two h2.1 (by simpa using h2.2), Option.map_map] at hrel
          have hN : (quo (s.data.toList.drop (j + 1 + 1))).map (· + (j + 1 + 1)) = O := by
            rw [hd3, ← hrel]
            congr 1
            funext x
            simp
            omega
          have HN := hide hN
          clear hN hrel hdr hr hd2 hd3 hc hq h2 hb
          go_wp2_with (first
            | (go_at_call 62; (with_reducible refine Calls.mono (HP.out _) ?_); rintro e w5 ⟨rfl, rfl⟩))
          go_roundw
          case rel => exact ⟨j + 1 + 1, by omega, by omega, rfl, HN.out, trivial⟩
          case measure => simp [intOf]; omega
      · rw [decide_eq_false h2] at HP
        by_cases h39 : c.toNat = 39
        · have e39 : ((q : Int) == 39) = true := by simp; omega
          rw [quo_end h39 (fun h => h2 ⟨h39, h⟩)] at hrel
          have hO : O = some (j + 1) := by rw [← hrel]; simp; omega
          subst hO
          clear hrel hdr hr hc hq h2 h39
          go_wp2_with (first
            | (go_at_call 62; (with_reducible refine Calls.mono (HP.out _) ?_); rintro e w5 ⟨rfl, rfl⟩))
          (try rw [Exit.noGoto_ret]); go_ret
          exact ⟨rfl, rfl⟩
        · have e39 : ((q : Int) == 39) = false := by simp; omega
          rw [quo_not h39, Option.map_map] at hrel
          have hN : (quo (s.data.toList.drop (j + 1))).map (· + (j + 1)) = O := by
            rw [hr, ← hrel]
            congr 1
            funext x
            simp
            omega
          have HN := hide hN
          clear hN hrel hdr hr hc hq h2 h39
          go_wp2_with (first
            | (go_at_call 62; (with_reducible refine Calls.mono (HP.out _) ?_); rintro e w5 ⟨rfl, rfl⟩))
          go_roundw
          case rel => exact ⟨j + 1, by omega, by omega, rfl, HN.out, trivial⟩
          case measure => simp [intOf]; omega
    · have hje : j = s.size := by omega
      have l1 : ¬ (s.size : Int) < (s.size : Int) := by omega
      have l3 : (s.size : Int) ≤ (s.size : Int) := by omega
      subst hje
      rw [List.drop_of_length_le (by simp), quo] at hrel
      subst hrel
      go_wp2
      (try rw [Exit.noGoto_ret]); go_ret
      exact ⟨rfl, rfl⟩
theorem ext_two (s : ByteArray) (c d : UInt8) (r : List UInt8) (h : s.data.toList = c :: d :: r) : s.extract 0 2 = ⟨#[c, d]⟩ := by
  refine ba_eq ?_
  rw [ext_list, h]; rfl
theorem sign_size (s : ByteArray) (hs : s.size ≤ 140737488355328) (w : World) :
    Calls Tryd.prog 73 #[.string s] w fun e w' => e = .returned (.int .i64 (siz 6 s.data.toList : Int)) ∧ w = w' := by
  have hlen : s.data.toList.length = s.size := by simp
  cases hl : s.data.toList with
  | nil =>
    rw [hl] at hlen
    have h0 : s.size = 0 := by simpa using hlen.symm
    obtain ⟨e0, e00⟩ := ba_nil s h0
    have l1 : ¬ (1 : Int) < (s.size : Int) := by omega
    clear hl hlen
    go_enter Tryd.func73, Tryd.ntmps73
    go_wp2
    go_ret
    exact ⟨rfl, rfl⟩
  | cons c r =>
    rw [hl] at hlen
    have h0 : 0 < s.size := by rw [← hlen]; simp
    obtain ⟨e0, e00⟩ := ba_some s (by omega)
    have l0 : (0 : Int) < (s.size : Int) := by omega
    obtain ⟨q, hq⟩ : ∃ q, c.toNat = q := ⟨_, rfl⟩
    have hb : ∀ (h : 0 < s.size), ((s[0]'h).toNat : Int) = (q : Int) := fun h => by
      have := drop_next s 0 h0
      rw [List.drop_zero, hl] at this
      rw [← (List.cons.inj this).1, hq]
    have HS := hide (csign c)
    cases r with
    | nil =>
      have l1 : ¬ (1 : Int) < (s.size : Int) := by rw [← hlen]; simp
      cases hs1 : sinB c
      · have HS2 : Hid (∀ V, Calls Tryd.prog 88 #[.int .u8 (q : Int)] V fun e w' => e = .returned (.bool false) ∧ V = w') := fun V => by rw [← hs1, ← hq]; exact HS.out V
        have e1 : siz 6 [c] = 0 := by simp [siz, hs1]
        rw [e1]
        clear HS e1 hs1 hl hlen hq
        go_enter Tryd.func73, Tryd.ntmps73
        go_wp2_with (first
          | (go_at_call 88; (with_reducible refine Calls.mono (HS2.out _) ?_); rintro e w5 ⟨rfl, rfl⟩))
        go_ret
        exact ⟨rfl, rfl⟩
      · have HS2 : Hid (∀ V, Calls Tryd.prog 88 #[.int .u8 (q : Int)] V fun e w' => e = .returned (.bool true) ∧ V = w') := fun V => by rw [← hs1, ← hq]; exact HS.out V
        have e1 : siz 6 [c] = 1 := by simp [siz, hs1]
        rw [e1]
        clear HS e1 hs1 hl hlen hq
        go_enter Tryd.func73, Tryd.ntmps73
        go_wp2_with (first
          | (go_at_call 88; (with_reducible refine Calls.mono (HS2.out _) ?_); rintro e w5 ⟨rfl, rfl⟩))
        go_ret
        exact ⟨rfl, rfl⟩
    | cons d r =>
      have l1 : (1 : Int) < (s.size : Int) := by rw [← hlen]; simp; omega
      have l2 : (2 : Int) ≤ (s.size : Int) := by omega
      have hx := ext_two s c d r hl
      have HX : Hid (∀ V, Calls Tryd.prog 87 #[.string (s.extract 0 2)] V fun e w' => e = .returned (.bool (paiB c d)) ∧ V = w') := fun V => by rw [hx]; exact cpair c d V
      cases hp : paiB c d
      · rw [hp] at HX
        cases hs1 : sinB c
        · have HS2 : Hid (∀ V, Calls Tryd.prog 88 #[.int .u8 (q : Int)] V fun e w' => e = .returned (.bool false) ∧ V = w') := fun V => by rw [← hs1, ← hq]; exact HS.out V
          have e1 : siz 6 (c :: d :: r) = 0 := by simp [siz, hs1, hp]
          rw [e1]
          clear HS e1 hs1 hl hlen hq hx hp
          go_enter Tryd.func73, Tryd.ntmps73
          go_wp2_with (first
            | (go_at_call 87; (with_reducible refine Calls.mono (HX.out _) ?_); rintro e w5 ⟨rfl, rfl⟩)
            | (go_at_call 88; (with_reducible refine Calls.mono (HS2.out _) ?_); rintro e w5 ⟨rfl, rfl⟩))
          go_ret
          exact ⟨rfl, rfl⟩
        · have HS2 : Hid (∀ V, Calls Tryd.prog 88 #[.int .u8 (q : Int)] V fun e w' => e = .returned (.bool true) ∧ V = w') := fun V => by rw [← hs1, ← hq]; exact HS.out V
          have e1 : siz 6 (c :: d :: r) = 1 := by simp [siz, hs1, hp]
          rw [e1]
          clear HS e1 hs1 hl hlen hq hx hp
          go_enter Tryd.func73, Tryd.ntmps73
          go_wp2_with (first
            | (go_at_call 87; (with_reducible refine Calls.mono (HX.out _) ?_); rintro e w5 ⟨rfl, rfl⟩)
            | (go_at_call 88; (with_reducible refine Calls.mono (HS2.out _) ?_); rintro e w5 ⟨rfl, rfl⟩))
          go_ret
          exact ⟨rfl, rfl⟩
      · rw [hp] at HX
        have e1 : siz 6 (c :: d :: r) = 2 := by simp [siz, hp]
        rw [e1]
        clear HS e1 hl hlen hq hx hp
        go_enter Tryd.func73, Tryd.ntmps73
        go_wp2_with (first
          | (go_at_call 87; (with_reducible refine Calls.mono (HX.out _) ?_); rintro e w5 ⟨rfl, rfl⟩))
        go_ret
        exact ⟨rfl, rfl⟩
theorem digits_size (s : ByteArray) (hs : s.size ≤ 140737488355328) (w : World) :
    Calls Tryd.prog 53 #[.string s] w fun e w' => e = .returned (.int .i64 (siz 2 s.data.toList : Int)) ∧ w = w' := digits_e s hs w
/-- Which function measures a kind's tokens. -/
def szF (k : Nat) : Nat := if k = 1 then 69 else if k = 2 then 53 else if k = 3 then 70 else if k = 4 then 71 else if k = 5 then 72 else 73
theorem six {k : Nat} (h : 1 ≤ k ∧ k ≤ 6) : k = 1 ∨ k = 2 ∨ k = 3 ∨ k = 4 ∨ k = 5 ∨ k = 6 := by omega
theorem sizeof_e (k : Nat) (hk : 1 ≤ k ∧ k ≤ 6) (w : World) :
    Calls Tryd.prog 49 #[.int .i64 (k : Int)] w fun e w' => e = .returned (.func (.func (szF k)) #[] #[]) ∧ w = w' := by
  rcases six hk with rfl | rfl | rfl | rfl | rfl | rfl
  all_goals
    go_enter Tryd.func49, Tryd.ntmps49
    go_wp2
    go_ret
    exact ⟨rfl, rfl⟩
theorem leads_size (k : Nat) (hk : 1 ≤ k ∧ k ≤ 6) : Leads (szF k) := by
  rcases six hk with rfl | rfl | rfl | rfl | rfl | rfl
  all_goals
    intro _ _
    simp [go_sem, szF]
theorem size_e (k : Nat) (hk : 1 ≤ k ∧ k ≤ 6) (s : ByteArray) (hs : s.size ≤ 140737488355328) (h3 : k = 3 → 1 ≤ s.size) (h4 : k = 4 → 2 ≤ s.size) (h5 : k = 5 → 1 ≤ s.size) (w : World) :
    Calls Tryd.prog (szF k) #[.string s] w fun e w' => e = .returned (.int .i64 (siz k s.data.toList : Int)) ∧ w = w' := by
  rcases six hk with rfl | rfl | rfl | rfl | rfl | rfl
  · exact word_e s hs w
  · exact digits_size s hs w
  · exact text_size s hs (h3 rfl) w
  · exact blob_size s hs (h4 rfl) w
  · exact param_e s hs (h5 rfl) w
  · exact sign_size s hs w
end Go.Proofs.YtkooijhdjjdigaaDoor
