/- Texts held against each other byte by byte. -/
import Derived.Test.YtfjmoiooonialaaDoorVA
namespace Go.Proofs.YtfjmoiooonialaaDoor
open Go.ChangeShapes Go.WideShapes Go.ChangeAt Go.RowKit
set_option linter.unusedVariables false

set_option maxHeartbeats 1000000 in
set_option maxRecDepth 10000 in
theorem cmpBytesPlain (a b : ByteArray) (ha : a.size ≤ 140737488355328) (hb : b.size ≤ 140737488355328) (w : World) : Calls Tryd.prog 50 #[.string a, .string b, .func (.func 47) #[] #[]] w fun e w' =>
    e = .returned (.int .i64 (cmpL (a.data.toList.map id) (b.data.toList.map id))) ∧ Below w.heap.size w w' := by
  have HF : Hid (∀ (x y : UInt8) (V : World), Calls Tryd.prog 47 #[.int .u8 (x.toNat : Int), .int .u8 (y.toNat : Int)] V fun e w' => e = .returned (.int .i64 (cmpI (id x).toNat (id y).toNat)) ∧ V = w') := fun x y V => asBytes_walk (x.toNat : Int) (y.toNat : Int) V
  obtain ⟨R, hR⟩ : ∃ R, cmpL (a.data.toList.map id) (b.data.toList.map id) = R := ⟨_, rfl⟩
  rw [hR]
  have hla : a.data.toList.length = a.size := by simp
  have hlb : b.data.toList.length = b.size := by simp
  obtain ⟨m, hm⟩ : ∃ m, min a.size b.size = m := ⟨_, rfl⟩
  have hmn : min (a.size : Int) (b.size : Int) = (m : Int) := by omega
  have hm1 : (a.size : Int) ≤ (b.size : Int) ↔ m = a.size := by omega
  have HR : Hid (cmpL (a.data.toList.map id) (b.data.toList.map id) = R) := hR
  have hMin : (if (a.size : Int) ≤ (b.size : Int) then (a.size : Int) else (b.size : Int)) = (m : Int) := by split <;> omega
  clear hR
  go_enter Tryd.func50, Tryd.ntmps50
  go_wp2
  go_loopw [14] (fun iv wr => ∃ j : Nat, j ≤ m ∧ iv = .int .i64 (j : Int) ∧ cmpL ((a.data.toList.drop j).map id) ((b.data.toList.drop j).map id) = R ∧ Below w.heap.size w wr) (fun iv _ => m - (intOf iv).toNat)
  case atStart => exact ⟨0, by omega, rfl, HR.out, Below.refl _ _⟩
  case round =>
    obtain ⟨j, hj, rfl, hrel, hbw⟩ := hrel
    have HBW : Hid (Below w.heap.size w wr) := hbw
    clear hbw
    by_cases hlt : j < m
    · have ja : j < a.size := by omega
      have jb : j < b.size := by omega
      have l0 : (0 : Int) ≤ (j : Int) := by omega
      have l1 : (j : Int) < (m : Int) := by omega
      have l2 : (j : Int) < (a.size : Int) := by omega
      have l3 : (j : Int) < (b.size : Int) := by omega
      have hw1 : IntKind.i64.wrap ((j : Int) + 1) = (j : Int) + 1 := by rw [IntKind.wrap_i64]; omega
      obtain ⟨x, hx⟩ : ∃ x : UInt8, a[j]'ja = x := ⟨_, rfl⟩
      obtain ⟨y, hy⟩ : ∃ y : UInt8, b[j]'jb = y := ⟨_, rfl⟩
      have bx : ∀ (h : j < a.size), ((a[j]'h).toNat : Int) = (x.toNat : Int) := fun h => by rw [hx]
      have by' : ∀ (h : j < b.size), ((b[j]'h).toNat : Int) = (y.toNat : Int) := fun h => by rw [hy]
      have hda := byte_at a j ja
      have hdb := byte_at b j jb
      rw [hx] at hda
      rw [hy] at hdb
      rw [hda, hdb, List.map_cons, List.map_cons, cmpL_cons] at hrel
      obtain ⟨v, hv⟩ : ∃ v, cmpI (id x).toNat (id y).toNat = v := ⟨_, rfl⟩
      rw [hv] at hrel
      have HG : Hid (∀ V, Calls Tryd.prog 47 #[.int .u8 (x.toNat : Int), .int .u8 (y.toNat : Int)] V fun e w' => e = .returned (.int .i64 v) ∧ V = w') := fun V => by have := HF.out x y V; rw [hv] at this; exact this
      clear hda hdb hx hy hv HF HR
      by_cases hv0 : v = 0
      · subst hv0
        rw [if_pos rfl] at hrel
        have HL : Hid (cmpL ((a.data.toList.drop (j + 1)).map id) ((b.data.toList.drop (j + 1)).map id) = R) := hrel
        clear hrel
        go_wp2
        go_region_held3 (fun _ => True) (trivial) (first | (go_at_call 47; with_reducible refine Calls.mono (HG.out _) ?_; rintro e w1 ⟨rfl, rfl⟩))
        all_goals (try go_wp2)
        all_goals go_roundw
        all_goals first
          | exact ⟨j + 1, by omega, by go_num, HL.out, HBW.out.drew⟩
          | ((simp [intOf]) <;> omega)
      · rw [if_neg hv0] at hrel
        have hv1 : (v != 0) = true := by simp [bne, hv0]
        have hv2 : (v == 0) = false := by simp [hv0]
        subst hrel
        go_wp2
        go_region_held3 (fun _ => True) (trivial) (first | (go_at_call 47; with_reducible refine Calls.mono (HG.out _) ?_; rintro e w1 ⟨rfl, rfl⟩))
        all_goals (try go_wp2)
        all_goals go_ret
        all_goals exact ⟨rfl, HBW.out.drew⟩
    · have l1 : ¬ (j : Int) < (m : Int) := by omega
      have he : R = cmpI a.size b.size := by
        rw [← hrel, cmpL_end _ _ (by
          rcases (show j = a.size ∨ j = b.size by omega) with h | h
          · left; rw [List.drop_eq_nil_of_le (by omega)]; rfl
          · right; rw [List.drop_eq_nil_of_le (by omega)]; rfl)]
        rw [List.length_map, List.length_map, List.length_drop, List.length_drop, hla, hlb]
        unfold cmpI
        by_cases h1 : a.size < b.size
        · rw [if_pos (by omega), if_pos (by omega)]
        · by_cases h2 : b.size < a.size
          · rw [if_neg (by omega), if_pos (by omega), if_neg (by omega), if_pos (by omega)]
          · rw [if_neg (by omega), if_neg (by omega), if_neg (by omega), if_neg (by omega)]
      subst he
      clear hrel HR
      go_wp2_with (first
        | (go_at_call 17; with_reducible refine Calls.mono (compare_int _ _ _) ?_; rintro e w1 ⟨rfl, rfl⟩))
      go_ret
      exact ⟨rfl, HBW.out⟩

set_option maxHeartbeats 1000000 in
set_option maxRecDepth 10000 in
theorem cmpBytesNoCase (a b : ByteArray) (ha : a.size ≤ 140737488355328) (hb : b.size ≤ 140737488355328) (w : World) : Calls Tryd.prog 50 #[.string a, .string b, .func (.func 54) #[] #[]] w fun e w' =>
    e = .returned (.int .i64 (cmpL (a.data.toList.map lowB) (b.data.toList.map lowB))) ∧ Below w.heap.size w w' := by
  have HF : Hid (∀ (x y : UInt8) (V : World), Calls Tryd.prog 54 #[.int .u8 (x.toNat : Int), .int .u8 (y.toNat : Int)] V fun e w' => e = .returned (.int .i64 (cmpI (lowB x).toNat (lowB y).toNat)) ∧ V = w') := fun x y V => noCase_walk x y V
  obtain ⟨R, hR⟩ : ∃ R, cmpL (a.data.toList.map lowB) (b.data.toList.map lowB) = R := ⟨_, rfl⟩
  rw [hR]
  have hla : a.data.toList.length = a.size := by simp
  have hlb : b.data.toList.length = b.size := by simp
  obtain ⟨m, hm⟩ : ∃ m, min a.size b.size = m := ⟨_, rfl⟩
  have hmn : min (a.size : Int) (b.size : Int) = (m : Int) := by omega
  have hm1 : (a.size : Int) ≤ (b.size : Int) ↔ m = a.size := by omega
  have HR : Hid (cmpL (a.data.toList.map lowB) (b.data.toList.map lowB) = R) := hR
  have hMin : (if (a.size : Int) ≤ (b.size : Int) then (a.size : Int) else (b.size : Int)) = (m : Int) := by split <;> omega
  clear hR
  go_enter Tryd.func50, Tryd.ntmps50
  go_wp2
  go_loopw [14] (fun iv wr => ∃ j : Nat, j ≤ m ∧ iv = .int .i64 (j : Int) ∧ cmpL ((a.data.toList.drop j).map lowB) ((b.data.toList.drop j).map lowB) = R ∧ Below w.heap.size w wr) (fun iv _ => m - (intOf iv).toNat)
  case atStart => exact ⟨0, by omega, rfl, HR.out, Below.refl _ _⟩
  case round =>
    obtain ⟨j, hj, rfl, hrel, hbw⟩ := hrel
    have HBW : Hid (Below w.heap.size w wr) := hbw
    clear hbw
    by_cases hlt : j < m
    · have ja : j < a.size := by omega
      have jb : j < b.size := by omega
      have l0 : (0 : Int) ≤ (j : Int) := by omega
      have l1 : (j : Int) < (m : Int) := by omega
      have l2 : (j : Int) < (a.size : Int) := by omega
      have l3 : (j : Int) < (b.size : Int) := by omega
      have hw1 : IntKind.i64.wrap ((j : Int) + 1) = (j : Int) + 1 := by rw [IntKind.wrap_i64]; omega
      obtain ⟨x, hx⟩ : ∃ x : UInt8, a[j]'ja = x := ⟨_, rfl⟩
      obtain ⟨y, hy⟩ : ∃ y : UInt8, b[j]'jb = y := ⟨_, rfl⟩
      have bx : ∀ (h : j < a.size), ((a[j]'h).toNat : Int) = (x.toNat : Int) := fun h => by rw [hx]
      have by' : ∀ (h : j < b.size), ((b[j]'h).toNat : Int) = (y.toNat : Int) := fun h => by rw [hy]
      have hda := byte_at a j ja
      have hdb := byte_at b j jb
      rw [hx] at hda
      rw [hy] at hdb
      rw [hda, hdb, List.map_cons, List.map_cons, cmpL_cons] at hrel
      obtain ⟨v, hv⟩ : ∃ v, cmpI (lowB x).toNat (lowB y).toNat = v := ⟨_, rfl⟩
      rw [hv] at hrel
      have HG : Hid (∀ V, Calls Tryd.prog 54 #[.int .u8 (x.toNat : Int), .int .u8 (y.toNat : Int)] V fun e w' => e = .returned (.int .i64 v) ∧ V = w') := fun V => by have := HF.out x y V; rw [hv] at this; exact this
      clear hda hdb hx hy hv HF HR
      by_cases hv0 : v = 0
      · subst hv0
        rw [if_pos rfl] at hrel
        have HL : Hid (cmpL ((a.data.toList.drop (j + 1)).map lowB) ((b.data.toList.drop (j + 1)).map lowB) = R) := hrel
        clear hrel
        go_wp2
        go_region_held3 (fun _ => True) (trivial) (first | (go_at_call 54; with_reducible refine Calls.mono (HG.out _) ?_; rintro e w1 ⟨rfl, rfl⟩))
        all_goals (try go_wp2)
        all_goals go_roundw
        all_goals first
          | exact ⟨j + 1, by omega, by go_num, HL.out, HBW.out.drew⟩
          | ((simp [intOf]) <;> omega)
      · rw [if_neg hv0] at hrel
        have hv1 : (v != 0) = true := by simp [bne, hv0]
        have hv2 : (v == 0) = false := by simp [hv0]
        subst hrel
        go_wp2
        go_region_held3 (fun _ => True) (trivial) (first | (go_at_call 54; with_reducible refine Calls.mono (HG.out _) ?_; rintro e w1 ⟨rfl, rfl⟩))
        all_goals (try go_wp2)
        all_goals go_ret
        all_goals exact ⟨rfl, HBW.out.drew⟩
    · have l1 : ¬ (j : Int) < (m : Int) := by omega
      have he : R = cmpI a.size b.size := by
        rw [← hrel, cmpL_end _ _ (by
          rcases (show j = a.size ∨ j = b.size by omega) with h | h
          · left; rw [List.drop_eq_nil_of_le (by omega)]; rfl
          · right; rw [List.drop_eq_nil_of_le (by omega)]; rfl)]
        rw [List.length_map, List.length_map, List.length_drop, List.length_drop, hla, hlb]
        unfold cmpI
        by_cases h1 : a.size < b.size
        · rw [if_pos (by omega), if_pos (by omega)]
        · by_cases h2 : b.size < a.size
          · rw [if_neg (by omega), if_pos (by omega), if_neg (by omega), if_pos (by omega)]
          · rw [if_neg (by omega), if_neg (by omega), if_neg (by omega), if_neg (by omega)]
      subst he
      clear hrel HR
      go_wp2_with (first
        | (go_at_call 17; with_reducible refine Calls.mono (compare_int _ _ _) ?_; rintro e w1 ⟨rfl, rfl⟩))
      go_ret
      exact ⟨rfl, HBW.out⟩

end Go.Proofs.YtfjmoiooonialaaDoor
