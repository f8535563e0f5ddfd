/- The program's own way behind blanks and remarks; digits. -/
import Derived.Test.YtkooijhdjjdigaaDoorCB
import Derived.Test.YtkooijhdjjdigaaDoorSh
import Derived.Test.YtkooijhdjjdigaaDoorKI
namespace Go.Proofs.YtkooijhdjjdigaaDoor
open Go.ChangeShapes Go.WideShapes Go.ChangeAt Go.RowKit Go.Shelf
set_option linter.unusedVariables false

theorem pre_one (c : UInt8) (r : List UInt8) (b : UInt8) : Lib.hasPrefix (c :: r) [b] = decide (c.toNat = b.toNat) := by
  unfold Lib.hasPrefix
  rw [Bool.eq_iff_iff]
  simp [List.isPrefixOf, UInt8.toNat_inj]
  exact eq_comm
theorem pre_none (b : UInt8) (l : List UInt8) : Lib.hasPrefix [] (b :: l) = false := rfl
theorem pre_two (c : UInt8) (r : List UInt8) (b d : UInt8) : Lib.hasPrefix (c :: r) [b, d] = decide (c.toNat = b.toNat ∧ r.head?.map UInt8.toNat = some d.toNat) := by
  unfold Lib.hasPrefix
  rw [Bool.eq_iff_iff]
  cases r with
  | nil => simp [List.isPrefixOf]
  | cons x r =>
    simp [List.isPrefixOf, UInt8.toNat_inj]
    rw [eq_comm (a := b), eq_comm (a := d)]
theorem ext_drop (s : ByteArray) (a : Nat) : (s.extract a s.size).data.toList = s.data.toList.drop a := by
  rw [ext_list, List.take_of_length_le (by simp)]
theorem skp_line : ∀ (l : List UInt8), skp true l = rn (fun c => c.toNat != 10) l + skp false (l.drop (rn (fun c => c.toNat != 10) l))
  | [] => rfl
  | c :: r => by
    by_cases h : c.toNat = 10
    · rw [rn_cons, if_neg (by simp [h]), skp_ten h]; simp
    · rw [rn_cons, if_pos (by simp [h]), skp_on h, skp_line r]; simp; omega
set_option maxRecDepth 10000 in
theorem behind_e (s : ByteArray) (hs : s.size ≤ 140737488355328) (a : Nat) (ha : a ≤ s.size) (w : World) :
    Calls Tryd.prog 39 #[.string s, .int .i64 (a : Int)] w fun e w' => e = .returned (.int .i64 ((a + skp false (s.data.toList.drop a) : Nat) : Int)) ∧ w = w' := by
  obtain ⟨R, hR⟩ : ∃ R, a + skp false (s.data.toList.drop a) = R := ⟨_, rfl⟩
  rw [hR]
  have HR := hide hR
  clear hR
  go_enter Tryd.func39, Tryd.ntmps39
  go_wp2
  go_loopw [1] (fun iv wr => ∃ j : Nat, j ≤ s.size ∧ iv = .int .i64 (j : Int) ∧ j + skp false (s.data.toList.drop j) = R ∧ wr = w) (fun iv _ => s.size - (intOf iv).toNat)
  case atStart => exact ⟨a, ha, rfl, HR.out, rfl⟩
  case round =>
    obtain ⟨j, hj, rfl, hrel, rfl⟩ := hrel
    by_cases hlt : j < s.size
    · have l1 : (j : Int) < (s.size : Int) := by omega
      have l2 : (j : Int) ≤ (s.size : Int) := by omega
      have l0 : (0 : Int) ≤ (j : Int) := by omega
      have hw1 : IntKind.i64.wrap ((j : Int) + 1) = ((j + 1 : Nat) : Int) := by rw [IntKind.wrap_i64]; omega
      obtain ⟨c, hc⟩ : ∃ c : UInt8, s[j]'hlt = c := ⟨_, rfl⟩
      have hdr := drop_next s j hlt
      rw [hc] at hdr
      obtain ⟨r, hr⟩ : ∃ r, s.data.toList.drop (j + 1) = r := ⟨_, rfl⟩
      rw [hr] at hdr
      rw [hdr] at hrel
      have hb : ∀ (h : j < s.size), ((s[j]'h).toNat : Int) = (c.toNat : Int) := fun h => by rw [hc]
      have HB := hide (cblank c)
      have HP := hide (fun V => Tryd.strings_HasPrefix (s.extract j s.size) ⟨#[45, 45]⟩ V)
      have e2 : Lib.hasPrefix (s.extract j s.size).data.toList (⟨#[45, 45]⟩ : ByteArray).data.toList = decide (c.toNat = 45 ∧ r.head?.map UInt8.toNat = some 45) := by
        rw [ext_drop, hdr]; exact pre_two c r 45 45
      rw [e2] at HP
      clear e2
      by_cases hbl : blkB c = true
      · have HB2 : Hid (∀ V, Calls Tryd.prog 61 #[.int .u8 (c.toNat : Int)] V fun e w' => e = .returned (.bool true) ∧ V = w') := fun V => by rw [← hbl]; exact HB.out V
        rw [skp_blk hbl] at hrel
        have HN := hide hrel
        have Hr := hide hr
        clear hrel hdr hbl hc hr HB
        go_wp2_with (first
          | (go_at_call 61; (with_reducible refine Calls.mono (HB2.out _) ?_); rintro e w5 ⟨rfl, rfl⟩))
        go_roundw
        case rel => exact ⟨j + 1, by omega, rfl, by rw [Hr.out, ← HN.out]; omega, trivial⟩
        case measure => simp [intOf]; omega
      · rw [Bool.not_eq_true] at hbl
        have HB2 : Hid (∀ V, Calls Tryd.prog 61 #[.int .u8 (c.toNat : Int)] V fun e w' => e = .returned (.bool false) ∧ V = w') := fun V => by rw [← hbl]; exact HB.out V
        by_cases h45 : c.toNat = 45 ∧ r.head?.map UInt8.toNat = some 45
        · rw [decide_eq_true h45] at HP
          rw [skp_rem' hbl h45, ← skp_on (show c.toNat ≠ 10 by omega), skp_line, ← hdr] at hrel
          have HRn := hide (run_e (s.extract j s.size) (by simp; omega) _ _ leads_line cnot10)
          rw [ext_drop] at HRn
          have hp : 0 < rn (fun c => c.toNat != 10) (s.data.toList.drop j) := by rw [hdr, rn_cons, if_pos (by simp; omega)]; omega
          have hle := rn_le (fun c => c.toNat != 10) (s.data.toList.drop j)
          simp only [List.length_drop, Array.length_toList, ByteArray.size_data] at hle
          rw [List.drop_drop] at hrel
          generalize rn (fun c => c.toNat != 10) (s.data.toList.drop j) = m at *
          have hw2 : IntKind.i64.wrap ((j : Int) + (m : Int)) = ((j + m : Nat) : Int) := by rw [IntKind.wrap_i64]; omega
          have HN := hide hrel
          clear hrel hdr hbl hc hr HB h45
          go_wp2_with (first
            | (go_at_call 61; (with_reducible refine Calls.mono (HB2.out _) ?_); rintro e w5 ⟨rfl, rfl⟩)
            | (go_at_call 62; (with_reducible refine Calls.mono (HP.out _) ?_); rintro e w5 ⟨rfl, rfl⟩)
            | (go_at_call 63; (with_reducible refine Calls.mono (HRn.out _) ?_); rintro e w5 ⟨rfl, rfl⟩))
          go_roundw
          case rel => exact ⟨j + m, by omega, rfl, by rw [← HN.out]; omega, trivial⟩
          case measure => simp [intOf]; omega
        · rw [decide_eq_false h45] at HP
          rw [skp_not hbl h45] at hrel
          obtain rfl : j = R := by omega
          clear hrel hdr hbl hc hr HB h45
          go_wp2_with (first
            | (go_at_call 61; (with_reducible refine Calls.mono (HB2.out _) ?_); rintro e w5 ⟨rfl, rfl⟩)
            | (go_at_call 62; (with_reducible refine Calls.mono (HP.out _) ?_); rintro e w5 ⟨rfl, rfl⟩))
          go_ret
          exact ⟨rfl, rfl⟩
    · have hje : j = s.size := by omega
      have l1 : ¬ (s.size : Int) < (s.size : Int) := by omega
      subst hje
      rw [List.drop_of_length_le (by simp), skp] at hrel
      obtain rfl : s.size = R := by omega
      clear hrel
      go_wp2
      go_ret
      exact ⟨rfl, rfl⟩
theorem digits_e (s : ByteArray) (hs : s.size ≤ 140737488355328) (w : World) :
    Calls Tryd.prog 53 #[.string s] w fun e w' => e = .returned (.int .i64 (dgs s.data.toList : Int)) ∧ w = w' := by
  have HRn : Hid (∀ V, Calls Tryd.prog 63 #[.string s, .func (.func 74) #[] #[]] V fun e w' => e = .returned (.int .i64 (dgs s.data.toList : Int)) ∧ V = w') := fun V => run_e s hs _ _ leads_digit cdigit V
  go_enter Tryd.func53, Tryd.ntmps53
  go_wp2_with (first
    | (go_at_call 63; (with_reducible refine Calls.mono (HRn.out _) ?_); rintro e w5 ⟨rfl, rfl⟩))
  go_ret
  exact ⟨rfl, rfl⟩
end Go.Proofs.YtkooijhdjjdigaaDoor
