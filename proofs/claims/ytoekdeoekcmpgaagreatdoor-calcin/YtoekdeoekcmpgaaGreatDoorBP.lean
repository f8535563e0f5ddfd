/- Package calc: logic; what ofTwo hands back; Binary over it. -/
import Derived.Test.YtoekdeoekcmpgaaGreatDoorBO
namespace Go.Proofs.YtoekdeoekcmpgaaGreatDoor
open Go.ChangeShapes Go.WideShapes Go.ChangeAt Go.RowKit
set_option linter.unusedVariables false

def setB (what bx kx b_y ky : Bool) : Value := if ((kx && (bx == what)) || (ky && (b_y == what))) = true then truthV what else if (!kx || !ky) = true then val 0 0 ⟨#[]⟩ else truthV (!what)

set_option maxHeartbeats 4000000 in
set_option maxRecDepth 10000 in
theorem settled_walk (what : Bool) (k n : Int) (t : ByteArray) (k2 n2 : Int) (t2 : ByteArray) (bx kx b_y ky : Bool) (hx : truthB (numO k n t.data.toList) = .tuple #[.bool bx, .bool kx]) (hy : truthB (numO k2 n2 t2.data.toList) = .tuple #[.bool b_y, .bool ky]) (p : Nat) (w : World) (hE : Env w) (hcap : w.cell? ⟨p, 0, none⟩ = some (.bool what)) :
    Calls Tryz.prog 116 #[val k n t, val k2 n2 t2, .pointer (some ⟨p, 0, none⟩)] w fun e w' => e = .returned (setB what bx kx b_y ky) ∧ Below w.heap.size w w' := by
  have HW : Hid (∀ V, _ → _) := pr2_later w k n t k2 n2 t2
  have HTa : Hid (∀ V, Env V → Calls Tryz.prog 9 #[.agg #[.int .i64 k, .int .i64 n, .string t]] V fun e w' => e = .returned (.tuple #[.bool bx, .bool kx]) ∧ Below V.heap.size V w') := fun V hV => by have := truth2_walk k n t V hV; rw [hx] at this; exact this
  have HTb : Hid (∀ V, Env V → Calls Tryz.prog 9 #[.agg #[.int .i64 k2, .int .i64 n2, .string t2]] V fun e w' => e = .returned (.tuple #[.bool b_y, .bool ky]) ∧ Below V.heap.size V w') := fun V hV => by have := truth2_walk k2 n2 t2 V hV; rw [hy] at this; exact this
  have HTt : Hid (∀ V, Calls Tryz.prog 52 #[.bool true] V fun e w' => e = .returned (.agg #[.int .i64 1, .int .i64 1, .string ⟨#[]⟩]) ∧ Below V.heap.size V w') := fun V => ktruth_walk true V
  have HTf : Hid (∀ V, Calls Tryz.prog 52 #[.bool false] V fun e w' => e = .returned (.agg #[.int .i64 1, .int .i64 0, .string ⟨#[]⟩]) ∧ Below V.heap.size V w') := fun V => ktruth_walk false V
  have HE : Hid (∀ V, Below w.heap.size w V → Env V) := fun V h => hE.below h
  have HE0 : Hid (Env (((w.alloc (vcells k n t)).alloc (vcells k2 n2 t2)).alloc nilcells)) := hE.below (pr2_later w k n t k2 n2 t2 _ (Below.refl _ _)).2.2.2.2
  have HP : Hid (∀ V, Below w.heap.size w V → V.cell? ⟨p, 0, none⟩ = some (.bool what)) := fun V h => cell_later h hcap
  clear hx hy hE hcap
  cases what <;> cases bx <;> cases kx <;> cases b_y <;> cases ky
  all_goals
    go_enter Tryz.func116, Tryz.ntmps116
    go_wp2_with (first
      | (go_at_call 9; with_reducible refine Calls.mono (HTa.out _ HE0.out) ?_; rintro e w1 ⟨rfl, hb1⟩; have HX1 := hide hb1; obtain ⟨⟨p0, p1, p2⟩, ⟨q0, q1, q2⟩, ⟨d0, d1, d2, f0, f1, f2⟩, HK1, HB1⟩ := HW.out _ hb1; have hpc := HP.out _ HB1.out; clear hb1)
      | (go_at_call 9; with_reducible refine Calls.mono (HTb.out _ (HE.out _ HB1.out)) ?_; rintro e w2 ⟨rfl, hb2⟩; have HX2 := hide (below_trans HX1.out hb2); obtain ⟨⟨p0, p1, p2⟩, ⟨q0, q1, q2⟩, ⟨d0, d1, d2, f0, f1, f2⟩, HK2, HB2⟩ := HW.out _ HX2.out; have hpc := HP.out _ HB2.out; clear hb2)
      | (go_at_call 52; with_reducible refine Calls.mono (HTt.out _) ?_; rintro e w3 ⟨rfl, hb3⟩; have HX3 := hide (below_trans HX2.out hb3); obtain ⟨⟨p0, p1, p2⟩, ⟨q0, q1, q2⟩, ⟨d0, d1, d2, f0, f1, f2⟩, HK3, HB3⟩ := HW.out _ HX3.out; clear hb3)
      | (go_at_call 52; with_reducible refine Calls.mono (HTf.out _) ?_; rintro e w3 ⟨rfl, hb3⟩; have HX3 := hide (below_trans HX2.out hb3); obtain ⟨⟨p0, p1, p2⟩, ⟨q0, q1, q2⟩, ⟨d0, d1, d2, f0, f1, f2⟩, HK3, HB3⟩ := HW.out _ HX3.out; clear hb3))
    first
      | exact ret_valg Tryz.results116 rfl HK3.out ⟨rfl, below_set3g HB3.out (Nat.le_succ_of_le (Nat.le_succ _)) _ _ _⟩
      | exact ret_valg Tryz.results116 rfl HK2.out ⟨rfl, below_set3g HB2.out (Nat.le_succ_of_le (Nat.le_succ _)) _ _ _⟩
      | exact ret_same Tryz.results116 rfl HK2.out ⟨rfl, HB2.out⟩

end Go.Proofs.YtoekdeoekcmpgaaGreatDoor
