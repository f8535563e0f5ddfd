/- The document's Bytes, of a text. -/
import Derived.Test.YtghemaghbpekfaaDoorRM
import Derived.Test.YtghemaghbpekfaaDoorRP
namespace Go.Proofs.YtghemaghbpekfaaDoor
open Go.ChangeShapes Go.WideShapes Go.ChangeAt Go.RowKit
set_option linter.unusedVariables false

def bytV (o : Option (List UInt8)) : Value := match o with | some l => .tuple #[.string ⟨l.toArray⟩, .bool true] | none => .tuple #[.string ⟨#[]⟩, .bool false]

theorem map_cat (o : Option (List UInt8)) (l d : List UInt8) : (o.map (d ++ ·)).map (l ++ ·) = o.map ((l ++ d) ++ ·) := by
  cases o <;> simp

set_option maxHeartbeats 2000000 in
set_option maxRecDepth 10000 in
theorem bytes_text (s : ByteArray) (hs : s.size ≤ 1000) (w : World) : Calls Tryd.prog 27 #[.string s, .bool false] w fun e w' => e = .returned (bytV (unq s.data.toList)) ∧ Below w.heap.size w w' := by
  go_enter Tryd.func27, Tryd.ntmps27
  go_wp2
  go_loopw [6, 7] (fun v i wr => ∃ (j : Nat) (l : List UInt8), j ≤ s.size ∧ l.length ≤ j ∧ i = .int .i64 j ∧ OwnB wr w.heap.size v l ∧ unq s.data.toList = (unq (s.data.toList.drop j)).map (l ++ ·) ∧ Below w.heap.size w wr) (fun _ i _ => s.size - (intOf i).toNat)
  case atStart => exact ⟨0, [], Nat.zero_le _, Nat.le_refl _, rfl, World.ownsRow_nil _ _ _ _, by simp, Below.refl _ _⟩
  case round =>
    obtain ⟨j, l, hj, hll, rfl, hown, hrel, hbel⟩ := hrel
    have HO : Hid (OwnB wr w.heap.size u6 l) := hown
    have HB : Hid (Below w.heap.size w wr) := hbel
    have HS : Hid (w.heap.size ≤ wr.heap.size) := hbel.size
    clear hown hbel
    by_cases hlt : j < s.size
    · have l1 : (j : Int) < (s.size : Int) := by omega
      have l0 : (0 : Int) ≤ (j : Int) := by omega
      obtain ⟨c, hc⟩ : ∃ c : UInt8, s[j]'hlt = c := ⟨_, rfl⟩
      have hdr := drop_next s j hlt
      rw [hc] at hdr
      rw [hdr] at hrel
      by_cases h39 : c = 39
      · subst h39
        have hb : ∀ (h : j < s.size), ((s[j]'h).toNat : Int) = 39 := fun h => by rw [hc]; rfl
        by_cases hlt2 : j + 1 < s.size
        · have m1 : ¬ (s.size : Int) ≤ (j : Int) + 1 := by omega
          have m2 : (j : Int) + 1 < (s.size : Int) := by omega
          have m3 : (0 : Int) ≤ (j : Int) + 1 := by omega
          have m4 : ((j : Int) + 1).toNat = j + 1 := by omega
          have hw1 : IntKind.i64.wrap ((j : Int) + 1) = (j : Int) + 1 := by rw [IntKind.wrap_i64]; omega
          obtain ⟨d, hd⟩ : ∃ d : UInt8, s[j + 1]'hlt2 = d := ⟨_, rfl⟩
          have hdr2 := drop_next s (j + 1) hlt2
          rw [hd] at hdr2
          rw [hdr2] at hrel
          by_cases hd39 : d = 39
          · subst hd39
            have hb2 : ∀ (h : j + 1 < s.size), ((s[j + 1]'h).toNat : Int) = 39 := fun h => by rw [hd]; rfl
            have HR : Hid (unq s.data.toList = (unq (s.data.toList.drop (j + 1 + 1))).map ((l ++ [39]) ++ ·)) := (show unq s.data.toList = (unq (s.data.toList.drop (j + 1 + 1))).map ((l ++ [39]) ++ ·) by rw [hrel, unq_two, ← map_cat]; rfl)
            clear hrel hdr hc hd hdr2
            go_wp2_with (first
              | (at_builtin; refine wp_app (by rfl) _ _ (by rfl) w.heap.size u6 l [39] _ (by rfl) (by rfl) HO.out (by rfl) (by decide) (by simp; omega) HS.out ?_; intro g3 cap3 w3 hown3 hbel3 hsz3))
            go_roundw
            case rel => exact ⟨j + 1 + 1, l ++ [39], by omega, by simp; omega, by simp, by simpa using hown3, HR.out, HB.out.trans hbel3⟩
            case measure => simp [intOf]; omega
          · have hb2 : ∀ (h : j + 1 < s.size), ((s[j + 1]'h).toNat : Int) = (d.toNat : Int) := fun h => by rw [hd]
            have hn2 : ((d.toNat : Int) == 39) = false := by
              simp
              intro e
              exact hd39 (UInt8.toNat_inj.1 (by simpa using Int.ofNat_inj.1 e))
            have HN : Hid (unq s.data.toList = none) := (show unq s.data.toList = none by rw [hrel, unq, if_pos rfl, if_neg hd39]; rfl)
            clear hrel hdr hc hd hdr2
            go_wp2
            go_ret2
            rw [HN.out]
            exact ⟨rfl, HB.out⟩
        · have m1 : (s.size : Int) ≤ (j : Int) + 1 := by omega
          have hw1 : IntKind.i64.wrap ((j : Int) + 1) = (j : Int) + 1 := by rw [IntKind.wrap_i64]; omega
          have HN : Hid (unq s.data.toList = none) := (show unq s.data.toList = none by rw [hrel, List.drop_of_length_le (by simp; omega)]; simp [unq])
          clear hrel hdr hc
          go_wp2
          go_ret2
          rw [HN.out]
          exact ⟨rfl, HB.out⟩
      · have hb : ∀ (h : j < s.size), ((s[j]'h).toNat : Int) = (c.toNat : Int) := fun h => by rw [hc]
        have hn : ((c.toNat : Int) == 39) = false := by
          simp
          intro e
          exact h39 (UInt8.toNat_inj.1 (by simpa using Int.ofNat_inj.1 e))
        have HR : Hid (unq s.data.toList = (unq (s.data.toList.drop (j + 1))).map ((l ++ [c]) ++ ·)) := (show unq s.data.toList = (unq (s.data.toList.drop (j + 1))).map ((l ++ [c]) ++ ·) by rw [hrel, unq_cons h39, ← map_cat]; rfl)
        clear hrel hdr hc
        go_wp2_with (first
          | (at_builtin; refine wp_app (by rfl) _ _ (by rfl) w.heap.size u6 l [c] _ (by rfl) (by rfl) HO.out (by rfl) (by simp) (by simp; omega) HS.out ?_; intro g3 cap3 w3 hown3 hbel3 hsz3))
        go_roundw
        case rel => exact ⟨j + 1, l ++ [c], by omega, by simp; omega, by simp, by simpa using hown3, HR.out, HB.out.trans hbel3⟩
        case measure => simp [intOf]; omega
    · have hje : j = s.size := by omega
      subst hje
      have l1 : ¬ ((s.size : Int) < (s.size : Int)) := by omega
      have HN : Hid (unq s.data.toList = some l) := (show unq s.data.toList = some l by rw [hrel, List.drop_of_length_le (by simp)]; simp [unq])
      have hcv := conv_own HO.out
      clear hrel
      go_wp2
      go_ret2
      rw [HN.out]
      exact ⟨rfl, HB.out⟩
end Go.Proofs.YtghemaghbpekfaaDoor
