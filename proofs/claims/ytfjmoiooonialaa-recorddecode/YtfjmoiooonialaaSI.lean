/- The reader of records. -/
import Derived.Test.YtfjmoiooonialaaSH
import Derived.Defers
import Derived.Recover
import Derived.WalkSmall
namespace Go.Proofs.Ytfjmoiooonialaa
open Go.ChangeShapes Go.WideShapes Go.ChangeAt Go.RowKit
set_option linter.unusedVariables false

/-- What gives up leaves. -/
abbrev badP : List PanicEntry := [{ v := .iface 23 (.int .i64 8), recovered := false }]

theorem must_yes (w : World) : Calls Try.prog 28 #[.bool true] w fun e w' => e = .returned (.tuple #[]) ∧ w = w' := by
  go_enter Try.func28, Try.ntmps28
  go_wp2
  go_end0
  exact ⟨rfl, rfl⟩
theorem must_no (w : World) : Calls Try.prog 28 #[.bool false] w fun e w' => e = .panicked badP ∧ w = w' := by
  go_enter Try.func28, Try.ntmps28
  go_wp2
  first | exact ⟨rfl, rfl⟩ | simp [bodyPost]
theorem take_walk (p : Nat) (s : ByteArray) (n : Nat) (hn : n ≤ s.size) (hs : s.size ≤ 140737488355328) (w : World) (hc : w.cell? ⟨p, 0, none⟩ = some (.string s)) (hf : w.frozen? ⟨p, 0, none⟩ = false) : Calls Try.prog 31 #[.pointer (some ⟨p, 0, none⟩), .int .i64 (n : Int)] w fun e w' => e = .returned (.string (s.extract 0 n)) ∧ w' = w.setCell ⟨p, 0, none⟩ (.string (s.extract n s.size)) := by
  have l0 : ¬ (s.size : Int) < (n : Int) := by omega
  have l1 : (n : Int) ≤ (s.size : Int) := by omega
  go_enter Try.func31, Try.ntmps31
  go_wp2
  go_ret
  exact ⟨rfl, rfl⟩

theorem rvar_walk (p : Nat) (s : ByteArray) (u n : Nat) (hs : s.size ≤ 140737488355328) (hu : vrdU s.data.toList = u) (hn : vrdN s.data.toList = n) (h0 : 0 < n) (hl : n ≤ s.size) (w : World) (hc : w.cell? ⟨p, 0, none⟩ = some (.string s)) (hf : w.frozen? ⟨p, 0, none⟩ = false) : Calls Try.prog 30 #[.pointer (some ⟨p, 0, none⟩)] w fun e w' => e = .returned (.int .u64 (u : Int)) ∧ w' = w.setCell ⟨p, 0, none⟩ (.string (s.extract n s.size)) := by
  have HV : Hid (∀ V, Calls Try.prog 7 #[.string s] V fun e w' => e = .returned (.tuple #[.int .u64 (u : Int), .int .i64 (n : Int), .int .i64 0]) ∧ V = w') := fun V => by
    have := varint_walk s hs V
    rw [hu, hn, if_neg (by omega)] at this
    exact this
  have HT : Hid (∀ V, V.cell? ⟨p, 0, none⟩ = some (.string s) → V.frozen? ⟨p, 0, none⟩ = false → Calls Try.prog 31 #[.pointer (some ⟨p, 0, none⟩), .int .i64 (n : Int)] V fun e w' => e = .returned (.string (s.extract 0 n)) ∧ w' = V.setCell ⟨p, 0, none⟩ (.string (s.extract n s.size))) := fun V h1 h2 => take_walk p s n hl hs V h1 h2
  clear hs hu hn h0 hl
  go_enter Try.func30, Try.ntmps30
  go_wp2_with (first
    | (go_at_call 7; with_reducible refine Calls.mono (HV.out _) ?_; rintro e w1 ⟨rfl, rfl⟩)
    | (go_at_call 28; with_reducible refine Calls.mono (must_yes _) ?_; rintro e w2 ⟨rfl, rfl⟩)
    | (go_at_call 31; with_reducible refine Calls.mono (HT.out _ hc hf) ?_; rintro e w3 ⟨rfl, rfl⟩))
  go_ret
  exact ⟨rfl, rfl⟩
end Go.Proofs.Ytfjmoiooonialaa
