/- The program's own run: how many bytes at a text's beginning belong there. -/
import Derived.Test.YtkooijhdjjdigaaDoorCD
namespace Go.Proofs.YtkooijhdjjdigaaDoor
open Go.ChangeShapes Go.WideShapes Go.ChangeAt Go.RowKit
set_option linter.unusedVariables false

/-- A function value that leads to a body. -/
def Leads (k : Nat) : Prop := ∀ (c : Array Value) (V : World), Sem.run Tryd.prog (callFunc k c) V = .ok (.enter k c) V
theorem leads_word : Leads 85 := fun _ _ => by simp [go_sem]
theorem leads_hex : Leads 86 := fun _ _ => by simp [go_sem]
theorem leads_digit : Leads 74 := fun _ _ => by simp [go_sem]
theorem leads_line : Leads 64 := fun _ _ => by simp [go_sem]
set_option maxRecDepth 20000 in
theorem run_e (s : ByteArray) (hs : s.size ≤ 140737488355328) (g : Nat) (B : UInt8 → Bool) (hL : Leads g) (hB : Tells g B) (w : World) :
    Calls Tryd.prog 63 #[.string s, .func (.func g) #[] #[]] w fun e w' => e = .returned (.int .i64 (rn B s.data.toList : Int)) ∧ w = w' := by
  obtain ⟨R, hR⟩ : ∃ R, rn B s.data.toList = R := ⟨_, rfl⟩
  rw [hR]
  have HR := hide hR
  have HL := hide hL
  clear hR hL
  go_enter Tryd.func63, Tryd.ntmps63
  go_wp2
  go_loopw [8] (fun iv wr => ∃ j : Nat, j ≤ s.size ∧ iv = .int .i64 (j : Int) ∧ j + rn B (s.data.toList.drop j) = R ∧ wr = w) (fun iv _ => s.size - (intOf iv).toNat)
  case atStart => exact ⟨0, Nat.zero_le _, rfl, by simpa using HR.out, rfl⟩
  case round =>
    obtain ⟨j, hj, rfl, hrel, rfl⟩ := hrel
    by_cases hlt : j < s.size
    · have l1 : (j : Int) < (s.size : Int) := by omega
      have l0 : (0 : Int) ≤ (j : Int) := by omega
      have hw1 : IntKind.i64.wrap ((j : Int) + 1) = ((j + 1 : Nat) : Int) := by rw [IntKind.wrap_i64]; omega
      obtain ⟨c, hc⟩ : ∃ c : UInt8, s[j]'hlt = c := ⟨_, rfl⟩
      have hdr := drop_next s j hlt
      rw [hc] at hdr
      rw [hdr, rn_cons] at hrel
      have hb : ∀ (h : j < s.size), ((s[j]'h).toNat : Int) = (c.toNat : Int) := fun h => by rw [hc]
      have HC := hide (hB c wr)
      by_cases hbl : B c = true
      · rw [if_pos hbl] at hrel
        rw [hbl] at HC
        have HN := hide hrel
        clear hrel hdr hbl hc
        go_wp2
        rw [HL.out]
        refine Calls.mono HC.out ?_
        rintro e w5 ⟨rfl, rfl⟩
        go_wp2
        go_roundw
        case rel => exact ⟨j + 1, by omega, rfl, by rw [← HN.out]; omega, trivial⟩
        case measure => simp [intOf]; omega
      · rw [if_neg hbl] at hrel
        rw [Bool.not_eq_true] at hbl
        rw [hbl] at HC
        obtain rfl : j = R := by omega
        clear hrel hdr hbl hc
        go_wp2
        rw [HL.out]
        refine Calls.mono HC.out ?_
        rintro e w5 ⟨rfl, rfl⟩
        go_wp2
        go_ret
        exact ⟨rfl, rfl⟩
    · have hje : j = s.size := by omega
      have l1 : ¬ (s.size : Int) < (s.size : Int) := by omega
      subst hje
      rw [List.drop_of_length_le (by simp), rn_nil] at hrel
      obtain rfl : s.size = R := by omega
      clear hrel
      go_wp2
      go_ret
      exact ⟨rfl, rfl⟩
end Go.Proofs.YtkooijhdjjdigaaDoor
