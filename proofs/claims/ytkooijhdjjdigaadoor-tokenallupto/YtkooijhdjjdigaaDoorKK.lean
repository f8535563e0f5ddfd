/- The document's Words. -/
import Derived.Test.YtkooijhdjjdigaaDoorKI
namespace Go.Proofs.YtkooijhdjjdigaaDoor
open Go.ChangeShapes Go.WideShapes Go.ChangeAt Go.RowKit
set_option linter.unusedVariables false

/-- The words of a text, at its blanks, behind one that is begun. -/
def wrds : List UInt8 → List UInt8 → List (List UInt8)
  | cur, [] => if cur = [] then [] else [cur]
  | cur, c :: r => if c.toNat = 32 then (if cur = [] then wrds [] r else cur :: wrds [] r) else wrds (cur ++ [c]) r
def stL (l : List (List UInt8)) : List Value := l.map fun x => .string ⟨x.toArray⟩
theorem stL_append (l r : List (List UInt8)) : stL (l ++ r) = stL l ++ stL r := by simp [stL]
theorem stL_length (l : List (List UInt8)) : (stL l).length = l.length := by simp [stL]
set_option maxHeartbeats 2000000 in
set_option maxRecDepth 10000 in
theorem words_e (s : ByteArray) (hs : s.size ≤ 4000000000000) (K : List (List UInt8)) (hK : wrds [] s.data.toList = K) (w : World) :
    Calls Tryd.prog 31 #[.string s] w fun e w' => ∃ v, e = .returned v ∧ w'.ownsRow w.heap.size 9 1 v K.length (stL K) ∧ Below w.heap.size w w' := by
  have hlen : s.data.toList.length = s.size := by simp
  have HK := hide hK
  clear hK
  go_enter Tryd.func31, Tryd.ntmps31
  go_wp2
  go_loopw [3, 4, 5] (fun ov fv iv wr => ∃ (j p : Nat) (L : List (List UInt8)), p ≤ j ∧ fv = .int .i64 (p : Int) ∧ iv = .int .i64 (j : Int) ∧ wr.ownsRow w.heap.size 9 1 ov L.length (stL L) ∧ (j ≤ s.size ∧ K = L ++ wrds ((s.data.toList.take j).drop p) (s.data.toList.drop j) ∨ j = s.size + 1 ∧ p = j ∧ K = L) ∧ L.length ≤ j ∧ Below w.heap.size w wr) (fun _ _ iv _ => s.size + 1 - (intOf iv).toNat)
  case atStart => exact ⟨0, 0, [], Nat.le_refl _, rfl, rfl, World.ownsRow_nil _ _ _ _, .inl ⟨Nat.zero_le _, by simpa using HK.out.symm⟩, by simp, Below.refl _ _⟩
  case round =>
    obtain ⟨j, p, L, hpj, rfl, rfl, hoT, hrel, hLj, hbel⟩ := hrel
    have HT := hide hoT
    have HB := hide hbel
    have HS := hide hbel.size
    clear hoT hbel
    rcases hrel with ⟨hj, hrel⟩ | ⟨hj, hp, hrel⟩
    · have l1 : (j : Int) ≤ (s.size : Int) := by omega
      have l0 : (0 : Int) ≤ (j : Int) := by omega
      have p0 : (0 : Int) ≤ (p : Int) := by omega
      have p1 : (p : Int) ≤ (j : Int) := by omega
      have hw1 : IntKind.i64.wrap ((j : Int) + 1) = ((j + 1 : Nat) : Int) := by rw [IntKind.wrap_i64]; omega
      have hcl : ((s.data.toList.take j).drop p).length = j - p := by rw [List.length_drop, List.length_take]; omega
      have N1 : Hid ((L.length + 1) * 16 ≤ 140737488355328) := (show (L.length + 1) * 16 ≤ 140737488355328 by omega)
      have N2 : Hid (L.length + 1 ≤ 140737488355328) := (show L.length + 1 ≤ 140737488355328 by omega)
      have hex := ext_list s p j
      obtain ⟨cur, hcur⟩ : ∃ cur, (s.data.toList.take j).drop p = cur := ⟨_, rfl⟩
      rw [hcur] at hex hrel hcl
      have hX := ba_eq hex
      by_cases hlt : j < s.size
      · have l2 : (j : Int) < (s.size : Int) := by omega
        have e1 : ((j : Int) == (s.size : Int)) = false := by simp; omega
        obtain ⟨c, hc⟩ : ∃ c : UInt8, s[j]'hlt = c := ⟨_, rfl⟩
        have hdr := drop_next s j hlt
        have htn := take_next s j hlt
        rw [hc] at hdr htn
        rw [hdr, wrds] at hrel
        obtain ⟨q, hq⟩ : ∃ q, c.toNat = q := ⟨_, rfl⟩
        rw [hq] at hrel
        have hb : ∀ (h : j < s.size), ((s[j]'h).toNat : Int) = (q : Int) := fun h => by rw [hc, hq]
        have hd0 : (s.data.toList.take (j + 1)).drop (j + 1) = [] := List.drop_of_length_le (by rw [List.length_take]; omega)
        by_cases h32 : q = 32
        · rw [if_pos h32] at hrel
          subst h32
          by_cases hgt : p < j
          · have g1 : (p : Int) < (j : Int) := by omega
            rw [if_neg (by intro e; rw [e] at hcl; simp at hcl; omega)] at hrel
            have HN : Hid (K = (L ++ [cur]) ++ wrds ((s.data.toList.take (j + 1)).drop (j + 1)) (s.data.toList.drop (j + 1))) := by
              rw [hd0, hrel]; simp [Hid]
            clear hrel hdr htn hc hq hex hcur hcl hd0
            go_wp2_with (first
              | (at_builtin; refine wp_appT 48 9 1 16 Tryd.underlying48 infoStr (by decide) [.string ⟨cur.toArray⟩] (m := 1) (by rfl) (by decide) (by simp [Value.oneCell']) HT.out N1.out N2.out HS.out _ _ (by rfl) (by rfl) (by rfl) (by rfl) ?_; intro g7 cap7 w7 hown7 hA7 hO7 hs7; have HT7 := hide hown7; have HB7 := hide (hA7 _ HB.out); clear hown7 hA7 hO7 hs7))
            go_roundw
            case rel => exact ⟨j + 1, j + 1, L ++ [cur], by omega, rfl, rfl, by rw [List.length_append, stL_append]; exact HT7.out, .inl ⟨by omega, HN.out⟩, by simp; omega, HB7.out⟩
            case measure => simp [intOf]; omega
          · have g1 : ¬ (p : Int) < (j : Int) := by omega
            rw [if_pos (List.length_eq_zero_iff.1 (by omega))] at hrel
            have HN : Hid (K = L ++ wrds ((s.data.toList.take (j + 1)).drop (j + 1)) (s.data.toList.drop (j + 1))) := by
              rw [hd0, hrel]; simp [Hid]
            clear hrel hdr htn hc hq hex hcur hcl hd0
            go_wp2
            go_roundw
            case rel => exact ⟨j + 1, j + 1, L, by omega, rfl, rfl, HT.out, .inl ⟨by omega, HN.out⟩, by omega, HB.out⟩
            case measure => simp [intOf]; omega
        · rw [if_neg h32] at hrel
          have e32 : ((q : Int) == 32) = false := by simp; omega
          have HN : Hid (K = L ++ wrds ((s.data.toList.take (j + 1)).drop p) (s.data.toList.drop (j + 1))) := by
            rw [htn, List.drop_append_of_le_length (by rw [List.length_take]; omega), hcur, hrel]; simp [Hid]
          clear hrel hdr htn hc hq hex hcur hcl hd0
          go_wp2
          go_roundw
          case rel => exact ⟨j + 1, p, L, by omega, rfl, rfl, HT.out, .inl ⟨by omega, HN.out⟩, by omega, HB.out⟩
          case measure => simp [intOf]; omega
      · have hje : j = s.size := by omega
        subst hje
        rw [List.drop_of_length_le (by simp), wrds] at hrel
        by_cases hgt : p < s.size
        · have g1 : (p : Int) < (s.size : Int) := by omega
          rw [if_neg (by intro e; rw [e] at hcl; simp at hcl; omega)] at hrel
          have HN := hide hrel
          clear hrel hex hcur hcl
          go_wp2_with (first
            | (at_builtin; refine wp_appT 48 9 1 16 Tryd.underlying48 infoStr (by decide) [.string ⟨cur.toArray⟩] (m := 1) (by rfl) (by decide) (by simp [Value.oneCell']) HT.out N1.out N2.out HS.out _ _ (by rfl) (by rfl) (by rfl) (by rfl) ?_; intro g7 cap7 w7 hown7 hA7 hO7 hs7; have HT7 := hide hown7; have HB7 := hide (hA7 _ HB.out); clear hown7 hA7 hO7 hs7))
          go_roundw
          case rel => exact ⟨s.size + 1, s.size + 1, L ++ [cur], by omega, rfl, rfl, by rw [List.length_append, stL_append]; exact HT7.out, .inr ⟨rfl, rfl, HN.out⟩, by simp; omega, HB7.out⟩
          case measure => (simp [intOf]) <;> omega
        · have g1 : ¬ (p : Int) < (s.size : Int) := by omega
          rw [if_pos (List.length_eq_zero_iff.1 (by omega)), List.append_nil] at hrel
          have HN := hide hrel
          clear hrel hex hcur hcl
          go_wp2
          go_roundw
          case rel => exact ⟨s.size + 1, s.size + 1, L, by omega, rfl, rfl, HT.out, .inr ⟨rfl, rfl, HN.out⟩, by omega, HB.out⟩
          case measure => (simp [intOf]) <;> omega
    · have l1 : ¬ ((s.size + 1 : Nat) : Int) ≤ (s.size : Int) := by omega
      subst hj
      have HN := hide hrel
      clear hrel
      go_wp2
      go_returns
      rw [HN.out]
      exact ⟨_, rfl, HT.out, HB.out⟩
end Go.Proofs.YtkooijhdjjdigaaDoor
