/- A row of texts put behind another. -/
import Derived.Test.YthhoeabenngiiaaNM
namespace Go.Proofs.Ythhoeabenngiiaa
open Go.ChangeShapes Go.WideShapes Go.ChangeAt Go.RowKit
set_option linter.unusedVariables false

theorem app_nothing (pv : Option Addr) (n cv : Nat) (hn : n ≤ cv) (p : Option Addr) (c : Nat) (ty : TypeId) (W : World) : (Builtin.append_ #[25, 25] ty #[.slice pv n cv, .slice p 0 c]).run Try.prog W = .ok (.slice pv n cv) W := by
  obtain ⟨i, hi, hz, hsz, hby⟩ := str_info
  cases p <;> cases pv <;> simp [Builtin.append_, run_underlying Try.underlying25, sizeOf, typeInfo, hi, Builtin.lenOf, Builtin.firstCells, loadCells, loadCellsFrom, storeCells, hn]
theorem strL_two (S S2 : Nat → ByteArray) (n m : Nat) : strL n S ++ strL m S2 = strL (n + m) (twoS S n S2) := by
  rw [← strL_app (twoS S n S2) n m]
  congr 1
  · exact strL_congr fun t ht => by unfold twoS; rw [if_pos ht]
  · exact strL_congr fun t ht => by unfold twoS; rw [if_neg (by omega), show n + t - n = t by omega]
theorem wp_appP {ops : Array Oper} {rest : List Oper} {o : Oper} {a : Act} {Q : Exit → Act → World → Prop} {w : World} {base n cv : Nat} {pv : Option Addr} {xs : List Value} (hown : w.ownsRow base 9 1 (.slice pv n cv) n xs) (hcv : n ≤ cv) {p : Option Addr} {m c : Nat} {S2 : Nat → ByteArray}
    (hs : StrP w p m S2) (hn : (n + m) * 16 ≤ 140737488355328) (hbase : base ≤ w.heap.size) (s z : Operand)
    (hgd : o.guard = none) (ho : o.op = .call { callee := .builtin .append, args := #[s, z], argTypes := #[25, 25] }) (hse : a.eval s = .slice pv n cv) (hze : a.eval z = .slice p m c)
    (hk : ∀ pv' cv' w', w'.ownsRow base 9 1 (.slice pv' (n + m) cv') (n + m) (xs ++ strL m S2) → (∀ A, Below base A w → Below base A w') → wpList Try.prog ops Q rest (a.put o.dst (.slice pv' (n + m) cv')) w') : wpList Try.prog ops Q (o :: rest) a w := by
  by_cases h0 : m = 0
  · subst h0
    refine wp_run2 hgd s z 25 25 ho _ _ _ _ hse hze (app_nothing pv n cv hcv p c _ w) (hk pv cv w ?_ (fun A h => h))
    simpa [strL] using hown
  · obtain ⟨g, rfl, hst⟩ := hs (by omega)
    refine wp_appS hown (m := m) (news := strL m S2) (by rw [strL_len, Nat.mul_one]) (news_head hst (Nat.le_refl _)) strL_one hn hbase s z hgd ho hse hze (fun v' w' h1 _ h2 => ?_)
    obtain ⟨pv', cv', rfl⟩ := own_form h1
    exact hk pv' cv' w' h1 h2
theorem Pg.laterB {w X V : World} {L : List (Nat × Obj)} {B : Nat} (h : Pg w X L) (hL : ∀ q ∈ L, q.1 < B) (hB : w.heap.size ≤ B) (hb : Below B X V) : Pg w V L where
  here := fun q hq => (hb.block _ (hL q hq)).trans (h.here q hq)
  nd := h.nd
  below := h.below.trans (hb.mono hB)
  base := h.base
end Go.Proofs.Ythhoeabenngiiaa
