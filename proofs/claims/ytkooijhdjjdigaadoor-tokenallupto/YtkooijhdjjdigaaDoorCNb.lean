/- A region that draws its order, within a round: by the words without a fence. -/
import Derived.Test.YtkooijhdjjdigaaDoorCMc
import Derived.Deep.RegionHeld
import Derived.OrdersIn
namespace Go.Proofs.YtkooijhdjjdigaaDoor
open Go.ChangeShapes Go.WideShapes Go.ChangeAt Go.RowKit Go.Shelf
set_option linter.unusedVariables false

variable {P : Program} {ops : Array Oper} {Q : Exit → Act → World → Prop} {md : Region.Mode} {l n : Nat}
theorem op_in {o : Oper} {a : Act} {w : World} {K : Act → World → Prop} (hnd : ∀ c, o.op ≠ .defer c) (h : o.wp P a w K Q) : o.wpIn (Fence.wide.inRound l) n P a w K Q := by
  unfold Oper.wpIn
  refine ⟨fun _ _ => trivial, ?_⟩
  rw [Fence.inRound_round, Oper.semAt_some _ _ _ hnd]
  unfold Oper.wp at h
  generalize (execOp a.eval o).run P w = r at *
  cases r with
  | ok x w' =>
    have nd : ∀ {p : Prop}, (Fence.wide.inRound l).depth.isSome = true → p := fun h => by simp [Fence.wide] at h
    cases x <;> first
      | exact h
      | exact h.elim
      | exact ⟨nd, callsIn_wide.2 h⟩
      | exact ⟨nd, fun c cs _ => let ⟨v, w'', r, s⟩ := h c cs; ⟨v, w'', r, stepsIn_wide.2 s⟩⟩
  | halt x w' => cases x <;> first | exact h | exact h.elim
def noDefer (o : Oper) : Bool := match o.op with | .defer _ => false | _ => true
theorem any_in (hnd : ∀ o ∈ ops, noDefer o = true) (hlo : ¬ LetsOut Q) : ∀ (fuel : Nat) (listed : Array Bool) (a : Act) (w : World), wpAny P md ops Q fuel listed a w → wpAnyIn (Fence.wide.inRound l) n P md ops Q fuel listed a w
  | 0, listed, a, w, h => h
  | fuel + 1, listed, a, w, h => by
    refine ⟨h.1, fun i hi => ?_⟩
    have h2 := h.2 i hi
    unfold wpOp at h2
    unfold wpOpIn
    split
    · rename_i ho; rw [ho] at h2; exact any_in hnd hlo fuel _ _ _ h2
    · rename_i o ho
      rw [ho] at h2
      simp only at h2
      have hd : ∀ c, o.op ≠ .defer c := fun c e => by
        have := hnd o (Array.mem_of_getElem? ho)
        unfold noDefer at this
        rw [e] at this; cases this
      split
      · rename_i hw
        rw [if_pos hw] at h2
        rcases h2 with h2 | h2
        · exact op_in hd (Oper.wp_mono (fun a w h => any_in hnd hlo fuel _ _ _ h) h2)
        · exact absurd h2.2 hlo
      · rename_i hw
        rw [if_neg hw] at h2
        exact ⟨fun _ _ => trivial, any_in hnd hlo fuel _ _ _ h2⟩
theorem region_in {S : World → Prop} {id : Nat} {a : Act} {w : World} (hm : P.follows .mixedOrders = true) (hnd : (ops.all noDefer) = true) (hlo : ¬ LetsOut Q) (hS : S w.drew)
    (h : S w.drew → wpAnyH P .any ops Q S ops.size (Array.replicate ops.size false) a w.drew) : (Code.region id ops true).wpIn (Fence.wide.inRound l) n P Q a w :=
  wpIn_region_any hm (any_in (fun o ho => by have := Array.all_eq_true'.1 hnd o ho; exact this) hlo _ _ _ _ (wpAny_of_held _ _ _ _ (h hS)))
theorem not_lets {c d B k : Nat} {Kp : World → World → Prop} {I Ix : Nat → World → Prop} {W : World} : ¬ LetsOut (Exit.inBlock c (Exit.inBlock d (endL B Kp I Ix k W))) := fun ⟨a, w, h⟩ => by
  simp [Exit.inBlock, endL] at h
theorem wp_appU {o : Oper} {a : Act} {w w' : World} {K : Act → World → Prop} {v y v' : Value} (s x : Operand) (t : TypeId) (ho : o.op = .call { callee := .builtin .append, args := #[s, x], argTypes := #[t, t] })
    (hs : a.eval s = v) (hx : a.eval x = y) (hr : (Builtin.append_ #[t, t] o.type #[v, y]).run Tryd.prog w = .ok v' w') (h : K (a.put o.dst v') w') : o.wp Tryd.prog a w K Q := by
  unfold Oper.wp
  have e : (execOp a.eval o).run Tryd.prog w = .ok (.value v') w' := by
    simp [execOp, ho, resolve, invoke, builtin, hs, hx, hr, Result.andThen]
  rw [e]
  exact h
end Go.Proofs.YtkooijhdjjdigaaDoor
