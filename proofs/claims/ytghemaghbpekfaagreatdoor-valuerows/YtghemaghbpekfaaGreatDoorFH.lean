/- Bytes that a call appends, in a plain region. -/
import Derived.Test.YtghemaghbpekfaaGreatDoorVH
import Derived.Test.YtghemaghbpekfaaGreatDoorPC
namespace Go.Proofs.YtghemaghbpekfaaGreatDoor
open Go.ChangeShapes Go.WideShapes Go.ChangeAt Go.RowKit
set_option linter.unusedVariables false

theorem wp_app {ops : Array Oper} {rest : List Oper} {o : Oper} {a : Act} {Q : Exit → Act → World → Prop} {w : World} (hgd : o.guard = none) (s x : Operand)
    (ho : o.op = .call { callee := .builtin .append, args := #[s, x], argTypes := #[53, 53] }) (base : Nat) (v : Value) (l d : List UInt8) (C : Array Value) (hC : C = (bcs d).toArray)
    (hs : a.eval s = v) (hown : OwnB w base v l) (hx : a.eval x = .slice (some ⟨w.heap.size, 0, none⟩) d.length d.length) (hd : 0 < d.length) (hsz : l.length + d.length ≤ 140737488351232) (hbase : base ≤ w.heap.size)
    (h : ∀ g cap w', OwnB w' base (.slice (some ⟨g, 0, none⟩) (l.length + d.length) cap) (l ++ d) → Below base w w' → base ≤ w'.heap.size → wpList Tryz.prog ops Q rest (a.put o.dst (.slice (some ⟨g, 0, none⟩) (l.length + d.length) cap)) w') :
    wpList Tryz.prog ops Q (o :: rest) a (w.alloc (.cells C 5)) := by
  subst hC
  obtain ⟨i0, hi0, hz0, hz1, hz2⟩ := info_parts info5'
  refine wpList_append_lies _ hgd s x 53 ho base 5 i0 (.int .u8 0) 1 1 Tryz.underlying53 hi0 hz0 hz1 hz2 rfl (by omega) v l.length (bcs l) hs (hown.alloc _) ⟨w.heap.size, 0, none⟩ d.length d.length (bcs d) hx (by simp [length_bcs]) (World.news_of_block (cs := (bcs d).toArray) (t := 5) (fr := (0, 0)) (heap_alloc_new w _)) ?_ hd (by unfold maxLen; omega) (by omega) (by simp; omega) (w.heap.size + 1) (by simp) ?_
  · intro u hu
    simp only [bcs, List.mem_map] at hu
    obtain ⟨b, _, rfl⟩ := hu
    rfl
  · intro g cap w1 hown1 hgrow hat hlt
    have hb : Below base w w1 := below_row ((Below.refl base w).alloc hbase _) (hown.alloc _) (by simp; omega) hgrow
    exact h g cap w1 (own_step hown1 rfl) hb (Nat.le_trans hbase hb.size)
end Go.Proofs.YtghemaghbpekfaaGreatDoor
