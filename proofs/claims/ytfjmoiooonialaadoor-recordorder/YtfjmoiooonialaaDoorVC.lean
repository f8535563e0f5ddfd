/- How values stand: counted, byColl, cmpOfOneKind, Cmp. -/
import Derived.Test.YtfjmoiooonialaaDoorVB
import Derived.Deep.RegionWith
namespace Go.Proofs.YtfjmoiooonialaaDoor
open Go.ChangeShapes Go.WideShapes Go.ChangeAt Go.RowKit
set_option linter.unusedVariables false

theorem hide2 {p : Prop} (h : p) : Hid p := h
def cntS (c : Int) (s : ByteArray) : ByteArray := if c = 2 then ⟨(Lib.trimRightB s.data.toList 32).toArray⟩ else s

set_option maxHeartbeats 1000000 in
theorem counted_walk (s : ByteArray) (hs : s.size ≤ 140737488355328) (c : Int) (w : World) : Calls Tryd.prog 48 #[.string s, .int .i64 c] w fun e w' => e = .returned (.string (cntS c s)) ∧ w = w' := by
  unfold cntS
  by_cases h : c = 2
  · rw [if_pos h]
    have hc : (c == 2) = true := by simpa using h
    have HT : Hid (∀ V, Calls Tryd.prog 53 #[.string s, .string ⟨#[32]⟩] V fun e w' => e = .returned (.string ⟨(Lib.trimRightB s.data.toList 32).toArray⟩) ∧ V = w') := fun V => by
      refine (Tryd.strings_TrimRight_one s 32 (by decide) V (by omega)).mono ?_
      rintro e w1 ⟨rfl, rfl⟩
      exact ⟨rfl, rfl⟩
    clear h
    go_enter Tryd.func48, Tryd.ntmps48
    go_wp2_with (first
      | (go_at_call 53; with_reducible refine Calls.mono (HT.out _) ?_; rintro e w1 ⟨rfl, rfl⟩))
    go_ret
    exact ⟨rfl, rfl⟩
  · rw [if_neg h]
    have hc : (c == 2) = false := by simpa using h
    go_enter Tryd.func48, Tryd.ntmps48
    go_wp2
    go_ret
    exact ⟨rfl, rfl⟩

def collF (c : Int) : Value := if c = 1 then .func (.func 54) #[] #[] else .func (.func 47) #[] #[]
set_option maxHeartbeats 1000000 in
theorem byColl_walk (c : Int) (w : World) : Calls Tryd.prog 49 #[.int .i64 c] w fun e w' => e = .returned (collF c) ∧ w = w' := by
  have hmf : ∀ (fn : Fn) (first cap : Array Value) (w : World), (Instr.makeFunc fn first cap).run Tryd.prog w = .ok (.func fn first cap) w := fun _ _ _ _ => rfl
  unfold collF
  by_cases h : c = 1
  · rw [if_pos h]
    have hc : (c == 1) = true := by simpa using h
    clear h
    go_enter Tryd.func49, Tryd.ntmps49
    go_wp2
    go_ret
    exact ⟨rfl, rfl⟩
  · rw [if_neg h]
    have hc : (c == 1) = false := by simpa using h
    go_enter Tryd.func49, Tryd.ntmps49
    go_wp2
    go_ret
    exact ⟨rfl, rfl⟩

theorem trimRB_le (l : List UInt8) (c : UInt8) : (Lib.trimRightB l c).length ≤ l.length := by
  unfold Lib.trimRightB
  have := (List.dropWhile_suffix (p := fun b => b == c) (l := l.reverse)).length_le
  simpa using this
theorem cntS_size (c : Int) (s : ByteArray) : (cntS c s).size ≤ s.size := by
  unfold cntS
  split
  · have := trimRB_le s.data.toList 32
    have h : s.data.toList.length = s.size := by simp
    simp only [ByteArray.size, List.size_toArray] at *
    omega
  · exact Nat.le_refl _

/-- Two texts under a collation. -/
theorem cmpColl (s t : ByteArray) (hs : s.size ≤ 140737488355328) (ht : t.size ≤ 140737488355328) (c : Int) (w : World) : Calls Tryd.prog 50 #[.string (cntS c s), .string (cntS c t), collF c] w fun e w' =>
    e = .returned (.int .i64 (cmpL (foldL c s.data.toList) (foldL c t.data.toList))) ∧ Below w.heap.size w w' := by
  have h1 := Nat.le_trans (cntS_size c s) hs
  have h2 := Nat.le_trans (cntS_size c t) ht
  unfold collF
  by_cases h : c = 1
  · rw [if_pos h]
    have e1 : ∀ s : ByteArray, foldL c s.data.toList = (cntS c s).data.toList.map lowB := fun s => by
      unfold foldL cntS; rw [if_neg (by omega), if_pos h, if_neg (by omega)]
    rw [e1, e1]
    exact cmpBytesNoCase _ _ h1 h2 w
  · rw [if_neg h]
    have e1 : ∀ s : ByteArray, foldL c s.data.toList = (cntS c s).data.toList.map id := fun s => by
      unfold foldL cntS
      rw [List.map_id]
      by_cases h2 : c = 2
      · rw [if_pos h2, if_pos h2]
      · rw [if_neg h2, if_neg h, if_neg h2]
    rw [e1, e1]
    exact cmpBytesPlain _ _ h1 h2 w

end Go.Proofs.YtfjmoiooonialaaDoor
