/- What package value needs of memory: the library's own variables; that it lasts. -/
import Derived.Test.YtghemaghbpekfaaGreatDoorShelf
import Derived.Test.YtghemaghbpekfaaGreatDoorPB
import Derived.Test.YtghemaghbpekfaaGreatDoorChecked
import Derived.WalkKit
import Derived.ProofKit
import Derived.OpenShut
import Derived.Laws.StructEq
namespace Go.Proofs.YtghemaghbpekfaaGreatDoor
open Go.ChangeShapes Go.WideShapes Go.ChangeAt Go.RowKit
set_option linter.unusedVariables false

/-- What the library's variables hold, as far as package value comes to them. -/
structure Env (w : World) : Prop where
  m : ∃ m, w.cell? ⟨1, 0, none⟩ = some (.int .i64 m)
  tab : Lib.TabIs Tryz.prog w "internal/strconv.uint64pow10" .u64 Lib.pow10Tab
  syn : ∃ ev, w.cell? ⟨2, 0, none⟩ = some ev ∧ (ev = .nilIface ∨ ∃ te pe, ev = .iface te pe)
  ran : ∃ ev, w.cell? ⟨3, 0, none⟩ = some ev ∧ (ev = .nilIface ∨ ∃ te pe, ev = .iface te pe)

theorem cell_later {w w' : World} (b : Below w.heap.size w w') {a : Addr} {v : Value} (h : w.cell? a = some v) : w'.cell? a = some v := by
  refine (b.cell ?_).trans h
  refine Nat.lt_of_not_le fun hn => ?_
  have : w.heap[a.block]? = none := by simp; exact hn
  rw [World.cell?_of_block (w := World.mk #[] w.tape w.drawn w.os w.output) (w' := w) (by rw [this]; simp)] at h
  simp [World.cell?] at h

theorem Env.below {w w' : World} (h : Env w) (b : Below w.heap.size w w') : Env w' where
  m := let ⟨m, hm⟩ := h.m; ⟨m, cell_later b hm⟩
  tab := by
    have ht := h.tab
    unfold Lib.TabIs World.var? at *
    cases hg : Tryz.prog.globalNamed "internal/strconv.uint64pow10" with
    | none => rw [hg] at ht; cases ht
    | some g =>
      rw [hg] at ht
      simp only [Option.bind_some] at ht ⊢
      by_cases hk : g < w.heap.size
      · rw [b.block g hk]; exact ht
      · rw [show w.heap[g]? = none by simp; omega] at ht; cases ht
  syn := let ⟨ev, h1, h2⟩ := h.syn; ⟨ev, cell_later b h1, h2⟩
  ran := let ⟨ev, h1, h2⟩ := h.ran; ⟨ev, cell_later b h1, h2⟩

/-- A later world of the call: what lay before lies unchanged, and the library's variables are as they were. -/
theorem below_trans {w w1 w2 : World} (h : Below w.heap.size w w1) (k : Below w1.heap.size w1 w2) : Below w.heap.size w w2 :=
  h.trans (k.mono h.size)

end Go.Proofs.YtghemaghbpekfaaGreatDoor
