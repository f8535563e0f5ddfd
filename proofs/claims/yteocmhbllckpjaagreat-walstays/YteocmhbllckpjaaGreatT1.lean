/- A disk that is down refuses; CrashIn, Crash, Down. -/
import Derived.Test.YteocmhbllckpjaaGreatQ
namespace Go.Proofs.YteocmhbllckpjaaGreat
open Go.ChangeShapes Go.WideShapes Go.ChangeAt Go.RowKit
set_option linter.unusedVariables false

theorem refusal_rep (w : World) (base b : Nat) (D : DS) (who : Nat → Nat) (R : Rep w base b D who) :
    Calls Tryz.prog 38 #[.pointer (some ⟨b, 0, none⟩)] w fun e w' => e = .returned (.int .i64 (if D.down then 7 else 0)) ∧ w = w' :=
  refusal_some w b D.mb D.cv D.room D.fuse D.steps D.starts D.down R.blk

theorem made_rep (w : World) (base b : Nat) (D : DS) (who : Nat → Nat) (R : Rep w base b D who) :
    Calls Tryz.prog 37 #[.pointer (some ⟨b, 0, none⟩)] w fun e w' => e = .returned (.bool true) ∧ w = w' :=
  made_some w b D.mb ((R.blk.cell 0).trans (by simp))

theorem read_down (w : World) (base b : Nat) (D : DS) (who : Nat → Nat) (R : Rep w base b D who) (hdn : D.down = true) (nm : ByteArray) (x y : Int) :
    Calls Tryz.prog 12 #[.pointer (some ⟨b, 0, none⟩), .string nm, .int .i64 x, .int .i64 y] w fun e w' => e = .returned (.tuple #[.string ⟨#[]⟩, .int .i64 7]) ∧ w = w' := by
  have F := refusal_rep w base b D who R
  rw [hdn] at F
  clear R hdn
  go_enter Tryz.func12, Tryz.ntmps12
  go_wp2_with (go_at_call 38; refine F.mono ?_; rintro e w1 ⟨rfl, rfl⟩)
  go_ret2
  exact ⟨rfl, rfl⟩

theorem sync_down (w : World) (base b : Nat) (D : DS) (who : Nat → Nat) (R : Rep w base b D who) (hdn : D.down = true) (nm : ByteArray) :
    Calls Tryz.prog 127 #[.pointer (some ⟨b, 0, none⟩), .string nm] w fun e w' => e = .returned (.int .i64 7) ∧ w = w' := by
  have F := refusal_rep w base b D who R
  rw [hdn] at F
  clear R hdn
  go_enter Tryz.func127, Tryz.ntmps127
  go_wp2_with (go_at_call 38; refine F.mono ?_; rintro e w1 ⟨rfl, rfl⟩)
  go_ret
  exact ⟨rfl, rfl⟩

theorem len_down (w : World) (base b : Nat) (D : DS) (who : Nat → Nat) (R : Rep w base b D who) (hdn : D.down = true) (nm : ByteArray) :
    Calls Tryz.prog 120 #[.pointer (some ⟨b, 0, none⟩), .string nm] w fun e w' => e = .returned (.int .i64 0) ∧ w = w' := by
  have F := refusal_rep w base b D who R
  rw [hdn] at F
  clear R hdn
  go_enter Tryz.func120, Tryz.ntmps120
  go_wp2_with (go_at_call 38; refine F.mono ?_; rintro e w1 ⟨rfl, rfl⟩)
  go_ret
  exact ⟨rfl, rfl⟩

theorem misfit_down (w : World) (base b : Nat) (D : DS) (who : Nat → Nat) (R : Rep w base b D who) (hdn : D.down = true) (x y : Int) :
    Calls Tryz.prog 69 #[.pointer (some ⟨b, 0, none⟩), .int .i64 x, .int .i64 y] w fun e w' => e = .returned (.int .i64 7) ∧ w = w' := by
  have F := refusal_rep w base b D who R
  rw [hdn] at F
  clear R hdn
  go_enter Tryz.func69, Tryz.ntmps69
  go_wp2_with (go_at_call 38; refine F.mono ?_; rintro e w1 ⟨rfl, rfl⟩)
  go_ret
  exact ⟨rfl, rfl⟩

theorem write_down (w : World) (base b : Nat) (D : DS) (who : Nat → Nat) (R : Rep w base b D who) (hdn : D.down = true) (nm s : ByteArray) (x : Int) :
    Calls Tryz.prog 35 #[.pointer (some ⟨b, 0, none⟩), .string nm, .int .i64 x, .string s] w fun e w' => e = .returned (.int .i64 7) ∧ w = w' := by
  have F := fun y => misfit_down w base b D who R hdn x y
  clear R hdn
  go_enter Tryz.func35, Tryz.ntmps35
  go_wp2_with (go_at_call 69; refine (F _).mono ?_; rintro e w1 ⟨rfl, rfl⟩)
  go_ret
  exact ⟨rfl, rfl⟩

theorem down_any (w : World) (base b : Nat) (D : DS) (who : Nat → Nat) (R : Rep w base b D who) :
    Calls Tryz.prog 11 #[.pointer (some ⟨b, 0, none⟩)] w fun e w' => e = .returned (.bool D.down) ∧ w = w' := by
  have M := made_rep w base b D who R
  have h6 := R.blk.cell 6
  simp at h6
  clear R
  go_enter Tryz.func11, Tryz.ntmps11
  go_wp2_with (go_at_call 37; refine M.mono ?_; rintro e w1 ⟨rfl, rfl⟩)
  go_ret
  exact ⟨rfl, rfl⟩

theorem crash_any (w : World) (base b : Nat) (D : DS) (who : Nat → Nat) (R : Rep w base b D who) :
    Calls Tryz.prog 33 #[.pointer (some ⟨b, 0, none⟩)] w fun e w' => e = .returned (.tuple #[]) ∧ Rep w' base b { D with down := true } who ∧ Below base w w' := by
  have M := made_rep w base b D who R
  have h6 := R.blk.cell 6
  have f6 := R.blk.frozen 6
  simp at h6
  have HR : Hid (Rep w base b D who) := R
  clear R
  go_enter Tryz.func33, Tryz.ntmps33
  go_wp2_with (go_at_call 37; refine M.mono ?_; rintro e w1 ⟨rfl, rfl⟩)
  go_end0
  have R := HR.out
  refine ⟨rfl, R.setD (Only.cellAt _ _ _ _) { D with down := true } rfl rfl rfl rfl rfl ?_, (Only.cellAt _ _ _ _).below R.base_le (by simp; exact R.lowb)⟩
  have := R.blk.set 6 (.bool true)
  simpa [DS.cells] using this

/-- A step that is to crash: n below 1 says none. -/
theorem crashIn_any (w : World) (base b : Nat) (D : DS) (who : Nat → Nat) (R : Rep w base b D who) (n : Int) :
    Calls Tryz.prog 24 #[.pointer (some ⟨b, 0, none⟩), .int .i64 n] w fun e w' => e = .returned (.tuple #[]) ∧ Rep w' base b { D with fuse := max n 0 } who ∧ Below base w w' := by
  have M := made_rep w base b D who R
  have h3 := R.blk.cell 3
  have f3 := R.blk.frozen 3
  simp at h3
  have HR : Hid (Rep w base b D who) := R
  clear R
  have fin : ∀ m : Int, m = max n 0 → Rep (w.setCell ⟨b, 3, none⟩ (.int .i64 m)) base b { D with fuse := max n 0 } who ∧ Below base w (w.setCell ⟨b, 3, none⟩ (.int .i64 m)) := fun m hm => by
    have R := HR.out
    subst hm
    refine ⟨R.setD (Only.cellAt _ _ _ _) { D with fuse := max n 0 } rfl rfl rfl rfl rfl ?_, (Only.cellAt _ _ _ _).below R.base_le (by simp; exact R.lowb)⟩
    have := R.blk.set 3 (.int .i64 (max n 0))
    simpa [DS.cells] using this
  have HF : Hid (∀ m : Int, m = max n 0 → Rep (w.setCell ⟨b, 3, none⟩ (.int .i64 m)) base b { D with fuse := max n 0 } who ∧ Below base w (w.setCell ⟨b, 3, none⟩ (.int .i64 m))) := fin
  clear fin
  by_cases h : n < 0
  · go_enter Tryz.func24, Tryz.ntmps24
    go_wp2_with (go_at_call 37; refine M.mono ?_; rintro e w1 ⟨rfl, rfl⟩)
    go_end0
    exact ⟨rfl, HF.out _ (by omega)⟩
  · go_enter Tryz.func24, Tryz.ntmps24
    go_wp2_with (go_at_call 37; refine M.mono ?_; rintro e w1 ⟨rfl, rfl⟩)
    go_end0
    exact ⟨rfl, HF.out _ (by omega)⟩

end Go.Proofs.YteocmhbllckpjaaGreat
