/- Contracts of the small methods of a disk (made, refusal, size, endStep ..), over whatever world. -/
import Derived.Test.YtefcconbpomedaaRows
import Derived.WalkKit
import Derived.WalkSpells
import Derived.WalkLawsBesides
import Derived.ProofKit
import Derived.OpenShut
import Derived.ShutString
import Derived.ChangeOld
import Derived.Below
namespace Go.Proofs.Ytefcconbpomedaa
open Go.ChangeShapes Go.WideShapes Go.ChangeAt Go.RowKit
open Go.ChangeMaps (open_string shut_string)
set_option linter.unusedVariables false

theorem made_nil (w : World) : Calls Try.prog 32 #[.pointer none] w fun e w' => e = .returned (.bool false) ∧ w = w' := by
  go_enter Try.func32, Try.ntmps32
  go_wp2
  go_ret
  exact ⟨rfl, rfl⟩

theorem refusal_nil (w : World) : Calls Try.prog 29 #[.pointer none] w fun e w' => e = .returned (.int .i64 1) ∧ w = w' := by
  go_enter Try.func29, Try.ntmps29
  go_wp2
  go_ret
  exact ⟨rfl, rfl⟩

theorem made_some (w : World) (b mb : Nat) (hc : w.cell? ⟨b, 0, none⟩ = some (.map (some mb))) : Calls Try.prog 32 #[.pointer (some ⟨b, 0, none⟩)] w fun e w' => e = .returned (.bool true) ∧ w = w' := by
  have k1 := fun (w : World) (r : Option Nat) => run_neq_map_nil (P := Try.prog) w 60 9 79 r Try.underlying60
  go_enter Try.func32, Try.ntmps32
  go_wp2
  go_ret
  exact ⟨rfl, rfl⟩


/-- A block of cells that nothing has frozen. -/
abbrev Blk (w : World) (b : Nat) (c : Array Value) (t : TypeId) : Prop := w.heap[b]? = some (.cells c t (0, 0))

theorem Blk.cell {w : World} {b : Nat} {c : Array Value} {t : TypeId} (h : Blk w b c t) (o : Nat) : w.cell? ⟨b, o, none⟩ = c[o]? := by
  simp [World.cell?, h]
theorem Blk.frozen {w : World} {b : Nat} {c : Array Value} {t : TypeId} (h : Blk w b c t) (o : Nat) : w.frozen? ⟨b, o, none⟩ = false := by
  simp [World.frozen?, h]

/-- The cells of a disk. -/
abbrev dcells (mb : Nat) (cv : Value) (room fuse steps starts : Int) (down : Bool) : Array Value :=
  #[.map (some mb), cv, .int .i64 room, .int .i64 fuse, .int .i64 steps, .int .i64 starts, .bool down]

theorem refusal_some (w : World) (b mb : Nat) (cv : Value) (room fuse steps starts : Int) (down : Bool) (hb : Blk w b (dcells mb cv room fuse steps starts down) 63) :
    Calls Try.prog 29 #[.pointer (some ⟨b, 0, none⟩)] w fun e w' => e = .returned (.int .i64 (if down then 7 else 0)) ∧ w = w' := by
  have h0 := hb.cell 0
  have h6 := hb.cell 6
  simp at h0 h6
  clear hb
  cases down
  · go_enter Try.func29, Try.ntmps29
    go_wp2_with (go_at_call 32; refine (made_some _ _ _ h0).mono ?_; rintro e w' ⟨rfl, rfl⟩)
    go_ret
    exact ⟨rfl, rfl⟩
  · go_enter Try.func29, Try.ntmps29
    go_wp2_with (go_at_call 32; refine (made_some _ _ _ h0).mono ?_; rintro e w' ⟨rfl, rfl⟩)
    go_ret
    exact ⟨rfl, rfl⟩

theorem misfit_up (w : World) (b mb : Nat) (cv : Value) (room fuse steps starts : Int) (at_ n : Int) (hb : Blk w b (dcells mb cv room fuse steps starts false) 63)
    (ha : 0 ≤ at_) (hn : 0 ≤ n) (hs : at_ + n ≤ 1048576) :
    Calls Try.prog 33 #[.pointer (some ⟨b, 0, none⟩), .int .i64 at_, .int .i64 n] w fun e w' => e = .returned (.int .i64 0) ∧ w = w' := by
  have h1 : ¬ at_ < 0 := by omega
  have h2 : ¬ 1048576 - n < at_ := by omega
  go_enter Try.func33, Try.ntmps33
  go_wp2_with (go_at_call 29; refine (refusal_some _ _ _ _ _ _ _ _ _ hb).mono ?_; rintro e w' ⟨rfl, rfl⟩)
  go_ret
  exact ⟨rfl, rfl⟩

theorem size_of (w : World) (b o : Nat) (a : Option Addr) (n c : Nat) (h : w.cell? ⟨b, o, none⟩ = some (.slice a n c)) :
    Calls Try.prog 37 #[.pointer (some ⟨b, o, none⟩)] w fun e w' => e = .returned (.int .i64 n) ∧ w = w' := by
  go_enter Try.func37, Try.ntmps37
  go_wp2
  go_ret
  exact ⟨rfl, rfl⟩

/-- A step's end, no step to crash. -/
theorem endStep_none (w : World) (b mb : Nat) (cv : Value) (room steps starts : Int) (down : Bool) (hb : Blk w b (dcells mb cv room 0 steps starts down) 63) (hs0 : 0 ≤ steps) (hs1 : steps ≤ 1000000) :
    Calls Try.prog 34 #[.pointer (some ⟨b, 0, none⟩)] w fun e w' => e = .returned (.int .i64 0) ∧ w' = w.setCell ⟨b, 4, none⟩ (.int .i64 (steps + 1)) := by
  have h3 := hb.cell 3
  have h4 := hb.cell 4
  have f4 := hb.frozen 4
  simp at h3 h4
  go_enter Try.func34, Try.ntmps34
  go_wp2
  go_ret
  exact ⟨rfl, rfl⟩

end Go.Proofs.Ytefcconbpomedaa
