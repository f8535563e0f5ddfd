/- The document's Fold. -/
import Derived.Test.YtfjmoiooonialaaDoorFH
namespace Go.Proofs.YtfjmoiooonialaaDoor
open Go.ChangeShapes Go.WideShapes Go.ChangeAt Go.RowKit
set_option linter.unusedVariables false

def strLen : Value → Nat
  | .string s => s.size
  | _ => 0

set_option maxHeartbeats 1000000 in
theorem fold_same (s : ByteArray) (c : Int) (h1 : c ≠ 1) (h2 : c ≠ 2) (w : World) : Calls Tryd.prog 34 #[.string s, .int .i64 c] w fun e w' => e = .returned (.string s) ∧ Below w.heap.size w w' := by
  have e1 : (c != 1) = true := by simp [bne, h1]
  have e2 : (c == 2) = false := by simpa using h2
  clear h1 h2
  go_enter Tryd.func34, Tryd.ntmps34
  go_wp2
  go_ret
  exact ⟨rfl, Below.refl _ _⟩

theorem trimB_snoc (l : List UInt8) (c : UInt8) : Lib.trimRightB (l ++ [c]) 32 = if c = 32 then Lib.trimRightB l 32 else l ++ [c] := by
  unfold Lib.trimRightB
  rw [List.reverse_append, List.reverse_singleton, List.singleton_append, List.dropWhile_cons]
  by_cases h : c = 32
  · rw [if_pos h, if_pos (by simpa using h)]
  · rw [if_neg h, if_neg (by simpa using h)]; simp
theorem snoc_at (y : ByteArray) (h : 0 < y.size) : y.data.toList = (y.extract 0 (y.size - 1)).data.toList ++ [y[y.size - 1]'(by omega)] := by
  have hl : y.data.toList.length = y.size := by simp
  have e : (y.extract 0 (y.size - 1)).data.toList = y.data.toList.take (y.size - 1) := by rw [Lib.extract_eq]; show List.take _ _ = _; simp
  rw [e]
  have h2 := take_next y (y.size - 1) (by omega)
  rw [show y.size - 1 + 1 = y.size by omega, List.take_of_length_le (by omega)] at h2
  exact h2

set_option maxHeartbeats 1000000 in
set_option maxRecDepth 10000 in
theorem fold_trim (s : ByteArray) (hs : s.size ≤ 140737488351232) (w : World) : Calls Tryd.prog 34 #[.string s, .int .i64 2] w fun e w' => e = .returned (.string ⟨(Lib.trimRightB s.data.toList 32).toArray⟩) ∧ Below w.heap.size w w' := by
  obtain ⟨R, hR⟩ : ∃ R, Lib.trimRightB s.data.toList 32 = R := ⟨_, rfl⟩
  rw [hR]
  go_enter Tryd.func34, Tryd.ntmps34
  go_wp2
  go_loopw [0] (fun sv wr => ∃ y : ByteArray, sv = .string y ∧ y.size ≤ 140737488351232 ∧ Lib.trimRightB y.data.toList 32 = R ∧ wr = w) (fun sv _ => strLen sv)
  case atStart => exact ⟨s, rfl, hs, hR, rfl⟩
  case round =>
    clear hR
    obtain ⟨y, rfl, hy4, hyt, rfl⟩ := hrel
    have hyl : y.data.toList.length = y.size := by simp
    by_cases hy0 : y.size = 0
    · have hye : y.data.toList = [] := List.length_eq_zero_iff.1 (hyl.trans hy0)
      have l0 : ¬ (0 : Int) < (y.size : Int) := by omega
      have HR : Hid (y = ⟨R.toArray⟩) := by
        have e : R = [] := by rw [← hyt, hye]; rfl
        rw [e]
        cases y with | mk d => cases d with | mk l => simp at hye; rw [hye]; exact rfl
      clear hyt hye
      go_wp2
      go_ret
      exact ⟨congrArg (fun z => Ending.returned (.string z)) HR.out, Below.refl _ _⟩
    · have hpos : 0 < y.size := by omega
      obtain ⟨c, hc⟩ : ∃ c : UInt8, y[y.size - 1]'(by omega) = c := ⟨_, rfl⟩
      have hsn := snoc_at y hpos
      rw [hc] at hsn
      have hbz : ∀ (h : y.size - 1 < y.size), ((y[y.size - 1]'h).toNat : Int) = (c.toNat : Int) := fun h => by rw [hc]
      have l0 : (0 : Int) < (y.size : Int) := by omega
      have m1 : ((y.size : Int) - 1).toNat = y.size - 1 := by omega
      have m2 : (0 : Int) ≤ (y.size : Int) - 1 := by omega
      have m3 : (y.size : Int) - 1 < (y.size : Int) := by omega
      have m5 : (y.size : Int) - 1 ≤ (y.size : Int) := by omega
      have hw1 : IntKind.i64.wrap ((y.size : Int) - 1) = (y.size : Int) - 1 := by rw [IntKind.wrap_i64]; omega
      by_cases hb : c = 32
      · have eb : ((c.toNat : Int) == 32) = true := by rw [hb]; rfl
        have HR : Hid ((y.extract 0 (y.size - 1)).size ≤ 140737488351232 ∧ Lib.trimRightB (y.extract 0 (y.size - 1)).data.toList 32 = R ∧ (y.extract 0 (y.size - 1)).size < y.size) := by
          have e2 : (y.extract 0 (y.size - 1)).size = y.size - 1 := by rw [ByteArray.size_extract]; omega
          refine ⟨by omega, ?_, by omega⟩
          rw [← hyt]
          conv => rhs; rw [hsn, trimB_snoc, if_pos hb]
        clear hb hyt hc hsn
        go_wp2
        go_roundw
        case rel => exact ⟨_, rfl, HR.out.1, HR.out.2.1, by first | rfl | trivial⟩
        case measure => exact HR.out.2.2
      · have eb : ((c.toNat : Int) == 32) = false := beq_eq_false_iff_ne.2 (fun e => hb (UInt8.toNat_inj.1 (by simpa using Int.ofNat_inj.1 e)))
        have hyr : y.data.toList = R := by
          rw [← hyt]
          conv => rhs; rw [hsn, trimB_snoc, if_neg hb]
          exact hsn
        have HR : Hid (y = ⟨R.toArray⟩) := by
          rw [← hyr]
          cases y with | mk d => simp; exact trivial
        clear hb hyt hc hsn hyr
        go_wp2
        go_ret
        exact ⟨congrArg (fun z => Ending.returned (.string z)) HR.out, Below.refl _ _⟩

set_option maxHeartbeats 1000000 in
set_option maxRecDepth 10000 in
theorem fold_low (s : ByteArray) (hs : s.size ≤ 140737488351232) (w : World) : Calls Tryd.prog 34 #[.string s, .int .i64 1] w fun e w' => e = .returned (.string ⟨(s.data.toList.map lowB).toArray⟩) ∧ Below w.heap.size w w' := by
  go_enter Tryd.func34, Tryd.ntmps34
  go_wp2
  go_loopw [5, 6] (fun v i wr => ∃ j : Nat, j ≤ s.size ∧ i = .int .i64 j ∧ OwnB wr w.heap.size v ((s.data.toList.take j).map lowB) ∧ Below w.heap.size w wr) (fun _ i _ => s.size - (intOf i).toNat)
  case atStart => exact ⟨0, Nat.zero_le _, rfl, World.ownsRow_nil _ _ _ _, Below.refl _ _⟩
  case round =>
    obtain ⟨j, hj, rfl, hown, hbel⟩ := hrel
    have HO : Hid (OwnB wr w.heap.size u5 ((s.data.toList.take j).map lowB)) := hown
    have HB : Hid (Below w.heap.size w wr) := hbel
    have HS : Hid (w.heap.size ≤ wr.heap.size) := hbel.size
    have hsl : s.data.toList.length = s.size := by simp
    have hlen : ((s.data.toList.take j).map lowB).length = j := by rw [List.length_map, List.length_take]; omega
    have HN : Hid (((s.data.toList.take j).map lowB).length = j) := hlen
    clear hown hbel hlen
    by_cases hlt : j < s.size
    · have l1 : (j : Int) < (s.size : Int) := by omega
      have l0 : (0 : Int) ≤ (j : Int) := by omega
      have hw1 : IntKind.i64.wrap ((j : Int) + 1) = (j : Int) + 1 := by rw [IntKind.wrap_i64]; omega
      obtain ⟨c, hc⟩ : ∃ c : UInt8, s[j]'hlt = c := ⟨_, rfl⟩
      have HC : Hid (s[j]'hlt = c) := hc
      obtain ⟨q, hq⟩ : ∃ q : Nat, c.toNat = q := ⟨_, rfl⟩
      have hb : ∀ (h : j < s.size), ((s[j]'h).toNat : Int) = (q : Int) := fun h => by rw [hc, hq]
      obtain ⟨d, hd⟩ : ∃ d : UInt8, lowB c = d := ⟨_, rfl⟩
      have HDd : Hid (lowB c = d) := hd
      have hu : ∀ z : Int, IntKind.u8.wrap z = z % 256 := fun z => by simp [IntKind.wrap, IntKind.signed, IntKind.bits]
      have HST : Hid (((s.data.toList.take (j + 1)).map lowB) = (s.data.toList.take j).map lowB ++ [d]) := by
        rw [take_next s j hlt, List.map_append, hc, ← hd]; exact rfl
      have hq256 : q < 256 := by rw [← hq]; exact UInt8.toNat_lt c
      clear hc
      by_cases hup : 65 ≤ q ∧ q ≤ 90
      · have i1 : (65 : Int) ≤ (q : Int) := by omega
        have i2 : (q : Int) ≤ 90 := by omega
        have hdn : d.toNat = q + 32 := by
          rw [← hd]; unfold lowB; rw [if_pos (by rw [hq]; exact hup), UInt8.toNat_add, hq]
          show (q + 32) % 256 = _
          omega
        obtain ⟨e, he⟩ : ∃ e : Nat, q = 65 + e := ⟨q - 65, by omega⟩
        have hsub : (q : Int) - 65 = (e : Int) := by omega
        have he256 : (e : Int) % 256 = (e : Int) := by omega
        have hwe : IntKind.u8.wrap (e : Int) = (e : Int) := by rw [hu]; omega
        have hadd : (e : Int) + 97 = (d.toNat : Int) := by omega
        have hd256 : (d.toNat : Int) % 256 = (d.toNat : Int) := by omega
        have hwd : IntKind.u8.wrap (d.toNat : Int) = (d.toNat : Int) := by rw [hu]; omega
        clear hu hd hq he hdn hup
        go_wp2_with (first
          | (at_builtin; refine wp_app (by rfl) _ _ (by rfl) w.heap.size u5 _ [d] _ (by rfl) (by rfl) HO.out (by rfl) (by simp) (by rw [HN.out]; simp; omega) HS.out ?_; intro g3 cap3 w3 hown3 hbel3 hsz3))
        go_roundw
        case rel =>
          refine ⟨j + 1, by omega, by go_num, ?_, HB.out.trans hbel3⟩
          rw [HST.out]
          have h3 := hown3
          rw [HN.out] at h3
          exact h3
        case measure => (simp [intOf]) <;> omega
      · have hdn : d.toNat = q := by rw [← hd]; unfold lowB; rw [if_neg (by rw [hq]; exact hup), hq]
        have hqd : (q : Int) = (d.toNat : Int) := by omega
        have hb2 : ∀ (h : j < s.size), ((s[j]'h).toNat : Int) = (d.toNat : Int) := fun h => by rw [hb h, hqd]
        by_cases h1 : q < 65
        · have i1 : ¬ (65 : Int) ≤ (d.toNat : Int) := by omega
          clear hu hd hq hdn hup hqd hb h1
          go_wp2_with (first
            | (at_builtin; refine wp_app (by rfl) _ _ (by rfl) w.heap.size u5 _ [d] _ (by rfl) (by rfl) HO.out (by rfl) (by simp) (by rw [HN.out]; simp; omega) HS.out ?_; intro g3 cap3 w3 hown3 hbel3 hsz3))
          go_roundw
          case rel =>
            refine ⟨j + 1, by omega, by go_num, ?_, HB.out.trans hbel3⟩
            rw [HST.out]
            have h3 := hown3
            rw [HN.out] at h3
            exact h3
          case measure => (simp [intOf]) <;> omega
        · have i1 : (65 : Int) ≤ (d.toNat : Int) := by omega
          have i2 : ¬ (d.toNat : Int) ≤ 90 := by omega
          clear hu hd hq hdn hup hqd hb h1
          go_wp2_with (first
            | (at_builtin; refine wp_app (by rfl) _ _ (by rfl) w.heap.size u5 _ [d] _ (by rfl) (by rfl) HO.out (by rfl) (by simp) (by rw [HN.out]; simp; omega) HS.out ?_; intro g3 cap3 w3 hown3 hbel3 hsz3))
          go_roundw
          case rel =>
            refine ⟨j + 1, by omega, by go_num, ?_, HB.out.trans hbel3⟩
            rw [HST.out]
            have h3 := hown3
            rw [HN.out] at h3
            exact h3
          case measure => (simp [intOf]) <;> omega
    · have l1 : ¬ (j : Int) < (s.size : Int) := by omega
      have hjt : s.data.toList.take j = s.data.toList := List.take_of_length_le (by omega)
      have HO2 := HO.out
      rw [hjt] at HO2
      have hcv := conv_own HO2
      clear HO2 hjt
      go_wp2
      go_ret
      exact ⟨rfl, HB.out⟩

theorem fold_walk (s : ByteArray) (hs : s.size ≤ 140737488351232) (c : Int) (w : World) : Calls Tryd.prog 34 #[.string s, .int .i64 c] w fun e w' => e = .returned (.string ⟨(foldL c s.data.toList).toArray⟩) ∧ Below w.heap.size w w' := by
  unfold foldL
  by_cases h2 : c = 2
  · subst h2; rw [if_pos rfl]; exact fold_trim s hs w
  · rw [if_neg h2]
    by_cases h1 : c = 1
    · subst h1; rw [if_pos rfl]; exact fold_low s hs w
    · rw [if_neg h1]
      have := fold_same s c h1 h2 w
      rw [show (⟨s.data.toList.toArray⟩ : ByteArray) = s by cases s with | mk d => simp]
      exact this
end Go.Proofs.YtfjmoiooonialaaDoor
