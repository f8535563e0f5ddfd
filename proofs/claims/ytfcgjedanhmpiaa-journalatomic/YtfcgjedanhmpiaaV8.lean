/- Sync on a disk that is up; Write of no bytes. -/
import Derived.Test.YtfcgjedanhmpiaaV7
namespace Go.Proofs.Ytfcgjedanhmpiaa
open Go.ChangeShapes Go.WideShapes Go.ChangeAt Go.RowKit
set_option linter.unusedVariables false

/-- What Sync makes of a disk. -/
def KeptD (D : DS) (nm : ByteArray) (D' : DS) : Prop :=
  (∃ f kv cv, look D.fs nm = some f ∧ D' = forgetD { takeD D f kv (keepF nm f.kept D.chs) with cv := cv, chs := others nm D.chs } nm) ∨ (look D.fs nm = none ∧ ∃ cv, D' = forgetD { D with cv := cv, chs := others nm D.chs } nm)
theorem Sane.stepped {D : DS} (S : Sane D) : Sane (stepped D) := ⟨S.sec, S.siz, S.kl, S.nm, S.few⟩
theorem keep_any (w : World) (base b : Nat) (D : DS) (who : Nat → Nat) (R : Rep w base b D who) (S : Sane D) (nm : ByteArray) :
    Calls Try.prog 68 #[.pointer (some ⟨b, 0, none⟩), .string nm] w fun e w' => e = .returned (.tuple #[]) ∧ Below base w w' ∧ ∃ D' who', Rep w' base b D' who' ∧ KeptD D nm D' := by
  cases hl : look D.fs nm with
  | some f =>
    refine (keep_hit w base b D who R S nm f hl).mono ?_
    rintro e w' ⟨h1, h2, kv, cv, who', h3⟩
    exact ⟨h1, h2, _, who', h3, .inl ⟨f, kv, cv, hl, rfl⟩⟩
  | none =>
    refine (keep_miss w base b D who R S nm hl).mono ?_
    rintro e w' ⟨h1, h2, cv, who', h3⟩
    exact ⟨h1, h2, _, who', h3, .inr ⟨hl, cv, rfl⟩⟩

set_option maxHeartbeats 1000000 in
theorem sync_up (w : World) (base b : Nat) (D : DS) (who : Nat → Nat) (R : Rep w base b D who) (S : Sane D) (F : Fine D) (hdn : D.down = false) (hfu : D.fuse ≠ 1) (nm : ByteArray) :
    Calls Try.prog 56 #[.pointer (some ⟨b, 0, none⟩), .string nm] w fun e w' => e = .returned (.int .i64 0) ∧ Below base w w' ∧ ∃ D' who', Rep w' base b D' who' ∧ KeptD (stepped D) nm D' := by
  have RF := hide (refusal_rep w base b D who R)
  have ES := hide (endStep_rep w base b D who R F.f0 F.f1 F.s0 F.s1)
  have HA : ans D = 0 := if_neg hfu
  have HS := hide S.stepped
  clear R S F hfu
  go_enter Try.func56, Try.ntmps56
  go_wp2_with (first
    | (go_at_call 44; refine Calls.mono RF.out ?_; rintro e w0 ⟨rfl, rfl⟩; rw [hdn])
    | (go_at_call 65; refine Calls.mono ES.out ?_; rintro e w1 ⟨rfl, hR1, hb1⟩; rw [HA]; have HR1 := hide hR1; have Hb1 := hide hb1; clear hR1 hb1)
    | (go_at_call 68; refine Calls.mono (keep_any w1 base b _ who HR1.out HS.out nm) ?_; rintro e w2 ⟨rfl, hb2, hR2⟩; have Hb2 := hide hb2; have HR2 := hide hR2; clear hb2 hR2))
  go_ret
  exact ⟨rfl, Hb1.out.trans Hb2.out, HR2.out⟩

set_option maxHeartbeats 1000000 in
theorem write_empty (w : World) (base b : Nat) (D : DS) (who : Nat → Nat) (R : Rep w base b D who) (F : Fine D) (hdn : D.down = false) (nm s : ByteArray) (at_ : Nat) (hs : s.size = 0) (hend : at_ ≤ 1048576) :
    Calls Try.prog 54 #[.pointer (some ⟨b, 0, none⟩), .string nm, .int .i64 at_, .string s] w fun e w' => e = .returned (.int .i64 (ans D)) ∧ Below base w w' ∧ Rep w' base b (stepped D) who := by
  obtain rfl : s = ⟨#[]⟩ := by
    cases s with | mk d =>
    have : d.size = 0 := hs
    rw [Array.eq_empty_of_size_eq_zero this]
  have M := hide (misfit_rep w base b D who R hdn at_ 0 hend)
  have ES := hide (endStep_rep w base b D who R F.f0 F.f1 F.s0 F.s1)
  clear R F hdn
  go_enter Try.func54, Try.ntmps54
  go_wp2_with (first
    | (go_at_call 64; refine Calls.mono M.out ?_; rintro e w0 ⟨rfl, rfl⟩)
    | (go_at_call 65; refine Calls.mono ES.out ?_; rintro e w1 ⟨rfl, hR1, hb1⟩; have HR1 := hide hR1; have Hb1 := hide hb1; clear hR1 hb1))
  go_ret
  exact ⟨rfl, Hb1.out, HR1.out⟩
end Go.Proofs.Ytfcgjedanhmpiaa
