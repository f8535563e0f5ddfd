/- What lasts in memory; how many bytes a varint has. -/
import Derived.Test.YtfjmoiooonialaaShelf
import Derived.Test.YtfjmoiooonialaaRA
import Derived.Test.YtfjmoiooonialaaChecked
import Derived.WalkKit
import Derived.ProofKit
import Derived.OpenShut
import Derived.Laws.StructEq
import Derived.Handy
import Derived.Deep.RegionHeld3
import Derived.Deep.Cut
namespace Go.Proofs.Ytfjmoiooonialaa
open Go.ChangeShapes Go.WideShapes Go.ChangeAt Go.RowKit
set_option linter.unusedVariables false

theorem cell_later {w w' : World} (b : Below w.heap.size w w') {a : Addr} {v : Value} (h : w.cell? a = some v) : w'.cell? a = some v := by
  refine (b.cell ?_).trans h
  refine Nat.lt_of_not_le fun hn => ?_
  have : w.heap[a.block]? = none := by simp; exact hn
  rw [World.cell?_of_block (w := World.mk #[] w.tape w.drawn w.os w.output) (w' := w) (by rw [this]; simp)] at h
  simp [World.cell?] at h
theorem below_trans {w w1 w2 : World} (h : Below w.heap.size w w1) (k : Below w1.heap.size w1 w2) : Below w.heap.size w w2 :=
  h.trans (k.mono h.size)
theorem new_below (w : World) (o : Obj) {W : World} (hW : w.alloc o = W) : Below w.heap.size w W := by
  subst hW; exact (Below.refl _ _).alloc (Nat.le_refl _) _
theorem hide {p : Prop} (h : p) : Hid p := h

set_option maxHeartbeats 1000000 in
theorem size_walk (u : Nat) (hu : u < 18446744073709551616) (w : World) : Calls Try.prog 21 #[.int .u64 (u : Int)] w fun e w' => e = .returned (.int .i64 (vsz u : Int)) ∧ w = w' := by
  have HL : Hid (∀ V, Calls Try.prog 34 #[.int .u64 (u : Int)] V fun e w' => e = .returned (.int .i64 (Lib.bitLen u)) ∧ w' = V) := fun V => Try.bits_Len64 (u : Int) V (by omega) (by omega)
  have hv := vsz_len u hu
  have hb : Lib.bitLen u ≤ 64 := by
    have := (bl_le 64 u 64 hu).2 hu
    exact this
  generalize Lib.bitLen u = L at HL hv hb
  have e1 : IntKind.i64.wrap ((L : Int) + 7) = (L : Int) + 7 := by rw [IntKind.wrap_i64]; omega
  have e2 : IntKind.i64.wrap ((L : Int) + 7 - 1) = (L : Int) + 6 := by rw [IntKind.wrap_i64]; omega
  have e3 : IntKind.i64.wrap (((L : Int) + 6).tdiv 7) = (((L + 6) / 7 : Nat) : Int) := by
    rw [Int.tdiv_eq_ediv_of_nonneg (by omega), IntKind.wrap_i64]; omega
  clear hu
  go_enter Try.func21, Try.ntmps21
  go_wp2_with (first
    | (go_at_call 34; with_reducible refine Calls.mono (HL.out _) ?_; rintro e w1 ⟨rfl, rfl⟩))
  go_ret
  refine ⟨?_, rfl⟩
  have : (min (max (((L : Int) + 6) / 7) 1) 9 : Int) = (vsz u : Int) := by omega
  rw [this]
  rfl
end Go.Proofs.Ytfjmoiooonialaa
