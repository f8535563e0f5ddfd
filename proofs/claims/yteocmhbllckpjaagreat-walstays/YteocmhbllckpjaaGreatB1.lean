/- Frames of the log: their numbers, their bytes, as values. -/
import Derived.Test.YteocmhbllckpjaaGreatS5
import Derived.Test.YteocmhbllckpjaaGreatN2
namespace Go.Proofs.YteocmhbllckpjaaGreat
open Go.ChangeShapes Go.WideShapes Go.ChangeAt Go.RowKit
open Go.ChangeMaps (setBlock)
set_option linter.unusedVariables false

theorem frameStart_w (w : World) (k : Nat) (hk : k ≤ 10000) : Calls Tryz.prog 81 #[.int .i64 ((k + 1 : Nat) : Int)] w fun e w' => e = .returned (.int .i64 ((64 + 320 * k : Nat) : Int)) ∧ w = w' := by
  have e0 : IntKind.i64.wrap (((k + 1 : Nat) : Int) - 1) = (k : Int) := by rw [IntKind.wrap_i64]; omega
  have e1 : IntKind.i64.wrap (320 * (k : Int)) = 320 * (k : Int) := by rw [IntKind.wrap_i64]; omega
  have e2 : IntKind.i64.wrap (64 + 320 * (k : Int)) = 64 + 320 * (k : Int) := by rw [IntKind.wrap_i64]; omega
  generalize ((k + 1 : Nat) : Int) = K at e0 ⊢
  go_enter Tryz.func81, Tryz.ntmps81
  go_wp2
  go_ret
  exact ⟨by simp, rfl⟩

set_option maxHeartbeats 2000000 in
theorem readNumber_w (w : World) (l : List UInt8) (hl : 4 ≤ l.length) : Calls Tryz.prog 138 #[.string (bstr l)] w fun e w' => e = .returned (.int .u32 (wordAt l 0 : Nat)) ∧ w = w' := by
  have hs : (bstr l).size = l.length := by simp [bstr, ByteArray.size]
  have hby : ∀ j (hj : j < (bstr l).size), (((bstr l)[j]'hj).toNat : Int) = (byteAt l j : Int) := fun j hj => by
    rw [hs] at hj
    simp [byteAt, bstr, List.getD, ByteArray.getElem_eq_getElem_data, hj]
  have b0 : ∀ h : 0 < (bstr l).size, (((bstr l)[0]'h).toNat : Int) = (byteAt l 0 : Int) := hby 0
  have b1 : ∀ h : 1 < (bstr l).size, (((bstr l)[1]'h).toNat : Int) = (byteAt l 1 : Int) := hby 1
  have b2 : ∀ h : 2 < (bstr l).size, (((bstr l)[2]'h).toNat : Int) = (byteAt l 2 : Int) := hby 2
  have b3 : ∀ h : 3 < (bstr l).size, (((bstr l)[3]'h).toNat : Int) = (byteAt l 3 : Int) := hby 3
  have HW := hideJ (word_val (byteAt l 0) (byteAt l 1) (byteAt l 2) (byteAt l 3) (byteAt_lt _ _) (byteAt_lt _ _) (byteAt_lt _ _) (byteAt_lt _ _))
  have l0 : (0 : Int) < ((bstr l).size : Int) := by omega
  have l1 : (1 : Int) < ((bstr l).size : Int) := by omega
  have l2 : (2 : Int) < ((bstr l).size : Int) := by omega
  have l3 : (3 : Int) < ((bstr l).size : Int) := by omega
  have m0 : (byteAt l 0 : Int) % 4294967296 = (byteAt l 0 : Int) := by have := byteAt_lt l 0; omega
  have m1 : (byteAt l 1 : Int) % 4294967296 = (byteAt l 1 : Int) := by have := byteAt_lt l 1; omega
  have m2 : (byteAt l 2 : Int) % 4294967296 = (byteAt l 2 : Int) := by have := byteAt_lt l 2; omega
  have m3 : (byteAt l 3 : Int) % 4294967296 = (byteAt l 3 : Int) := by have := byteAt_lt l 3; omega
  have hwd : wordAt l 0 = word4 (byteAt l 0) (byteAt l 1) (byteAt l 2) (byteAt l 3) := rfl
  rw [hwd]
  clear hwd hby hs hl
  generalize bstr l = s at b0 b1 b2 b3 l0 l1 l2 l3 ⊢
  generalize byteAt l 0 = a at *
  generalize byteAt l 1 = b at *
  generalize byteAt l 2 = c at *
  generalize byteAt l 3 = d at *
  go_enter Tryz.func138, Tryz.ntmps138
  go_wp2
  refine wp_loop_rounds 5 ?_
  rw [rounds_succ]
  go_wp2
  rw [rounds_succ]
  go_wp2
  rw [rounds_succ]
  go_wp2
  rw [rounds_succ]
  go_wp2
  rw [rounds_succ]
  go_wp2
  go_ret
  exact ⟨by rw [← HW.out]; rfl, rfl⟩

/-- A frame's cells, and its bytes. -/
def fcl (n : Int) (p : List UInt8) (e : Nat) (pl : Bool) : List Value := .int .i64 n :: (bcs p ++ [.int .u32 (e : Int), .bool pl])
theorem fcl_length (n : Int) {p : List UInt8} (e : Nat) (pl : Bool) (h : p.length = 256) : (fcl n p e pl).length = 259 := by simp [fcl, length_bcs, h]
def frB (n e : Nat) (p : List UInt8) : List UInt8 := be4 n ++ (be4 e ++ (List.replicate 56 0 ++ p))
theorem frB_length (n e : Nat) {p : List UInt8} (h : p.length = 256) : (frB n e p).length = 320 := by simp [frB, be4, h]
theorem fcl_end (n : Int) {p : List UInt8} (e : Nat) (pl : Bool) (h : p.length = 256) : (fcl n p e pl)[257]? = some (.int .u32 (e : Int)) := by
  unfold fcl
  rw [List.getElem?_cons_succ, List.getElem?_append_right (by rw [length_bcs]; omega), length_bcs, h]
  rfl
theorem fcl_plain (n : Int) {p : List UInt8} (e : Nat) (pl : Bool) (h : p.length = 256) : (fcl n p e pl)[258]? = some (.bool pl) := by
  unfold fcl
  rw [List.getElem?_cons_succ, List.getElem?_append_right (by rw [length_bcs]; omega), length_bcs, h]
  rfl

set_option maxHeartbeats 1000000 in
theorem ends_w (w : World) (n : Int) (p : List UInt8) (e : Nat) (pl : Bool) (h : p.length = 256) : Calls Tryz.prog 84 #[.agg (fcl n p e pl).toArray] w fun x w' => x = .returned (.bool (decide (e ≠ 0))) ∧ w.grownBy w' none := by
  obtain ⟨X, hX⟩ : ∃ X, X = (fcl n p e pl).toArray := ⟨_, rfl⟩
  rw [← hX]
  have hb : Blk (w.alloc (.cells X 167)) w.heap.size X 167 := alloc_new _ _
  have c1 := (hb.cell 257).trans (show _ = some (Value.int .u32 (e : Int)) by rw [hX]; simpa using fcl_end n e pl h)
  have HG := hideJ (World.grownBy_alloc w (.cells X 167) none)
  have HC := hideJ c1
  clear hb hX
  by_cases he : e = 0
  · subst he
    go_enter Tryz.func84, Tryz.ntmps84
    go_wp2
    go_ret
    exact ⟨rfl, HG.out⟩
  · have h1 : ¬ (e : Int) = 0 := by omega
    go_enter Tryz.func84, Tryz.ntmps84
    go_wp2
    go_ret
    exact ⟨by simp [he], HG.out⟩
end Go.Proofs.YteocmhbllckpjaaGreat
