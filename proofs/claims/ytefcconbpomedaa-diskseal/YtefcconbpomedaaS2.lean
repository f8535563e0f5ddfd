/- A sealed sector's copies, read; and what a sector says. -/
import Derived.Test.YtefcconbpomedaaS1
import Derived.Test.YtefcconbpomedaaE
namespace Go.Proofs.Ytefcconbpomedaa
open Go.ChangeShapes Go.WideShapes Go.ChangeAt Go.RowKit
set_option linter.unusedVariables false

def byteAt (l : List UInt8) (j : Nat) : Nat := (l.getD j 0).toNat
def wordAt (l : List UInt8) (o : Nat) : Nat := word4 (byteAt l o) (byteAt l (o + 1)) (byteAt l (o + 2)) (byteAt l (o + 3))
theorem byteAt_lt (l : List UInt8) (j : Nat) : byteAt l j < 256 := UInt8.toNat_lt _

theorem readWord_list (w : World) (g o len cap : Nat) (l : List UInt8) (hl : 4 ≤ len) (h : ∀ j, j < 4 → w.cell? ⟨g, o + j, none⟩ = some (.int .u8 (byteAt l (o + j)))) :
    Calls Try.prog 58 #[.slice (some ⟨g, o, none⟩) len cap] w fun e w' => e = .returned (.int .u32 (wordAt l o)) ∧ w = w' :=
  readWord_any w g o len cap _ _ _ _ hl (byteAt_lt _ _) (byteAt_lt _ _) (byteAt_lt _ _) (byteAt_lt _ _) (h 0 (by omega)) (h 1 (by omega)) (h 2 (by omega)) (h 3 (by omega))

theorem three_alloc (w : World) (A B C : Obj) : w.grownBy (((w.alloc A).alloc B).alloc C) none ∧ (((w.alloc A).alloc B).alloc C).heap[w.heap.size]? = some A := by
  obtain ⟨h1, h2, h3, h4⟩ := two_alloc w A B
  have hlt : w.heap.size < ((w.alloc A).alloc B).heap.size := by omega
  refine ⟨⟨rfl, rfl, rfl, by simp; omega, fun k hk _ => ?_⟩, (Below.heap_alloc _ _ _ hlt).trans h3⟩
  rw [Below.heap_alloc _ _ _ (by omega)]; exact h1.block k hk (by simp)

/-- One of the copies of a sector, as values. -/
def copyV (l : List UInt8) (k : Nat) : Array Value := #[.int .u32 (wordAt l (16 * k)), .int .u32 (wordAt l (16 * k + 4)), .int .u32 (wordAt l (16 * k + 8)), .int .u32 (wordAt l (16 * k + 12))]

set_option maxHeartbeats 1000000 in
set_option maxRecDepth 100000 in
theorem sealedCopy_any (w : World) (l : List UInt8) (hl : l.length = 64) (k : Nat) (hk : k = 0 ∨ k = 1 ∨ k = 2) :
    Calls Try.prog 47 #[.agg (bcs l).toArray, .int .i64 k] w fun e w' => e = .returned (.agg (copyV l k)) ∧ w.grownBy w' none := by
  obtain ⟨S, hS⟩ : ∃ S : Array Value, S = (bcs l).toArray := ⟨_, rfl⟩
  have hSs : S.size = 64 := by rw [hS]; simp [length_bcs, hl]
  have HC : Hid (∀ B C j, j < 64 → (((w.alloc (.cells S 42)).alloc B).alloc C).cell? ⟨w.heap.size, j, none⟩ = some (.int .u8 (byteAt l j))) := fun B C j hj => by
    rw [cell_of_row _ _ _ _ _ _ (three_alloc w _ B C).2, hS]
    simp [bcs, byteAt, List.getD, show j < l.length by omega]
  rw [← hS]
  clear hS
  rcases hk with rfl | rfl | rfl
  all_goals
    go_enter Try.func47, Try.ntmps47
    go_wp2
    refine wp_loop_rounds 5 ?_
    rw [rounds_succ]
    go_wp2_with (go_at_call 58; refine (readWord_list _ w.heap.size _ _ _ l (by omega) (fun j hj => HC.out _ _ _ (by omega))).mono ?_; rintro e w2 ⟨rfl, rfl⟩)
    rw [rounds_succ]
    go_wp2_with (go_at_call 58; refine (readWord_list _ w.heap.size _ _ _ l (by omega) (fun j hj => HC.out _ _ _ (by omega))).mono ?_; rintro e w2 ⟨rfl, rfl⟩)
    rw [rounds_succ]
    go_wp2_with (go_at_call 58; refine (readWord_list _ w.heap.size _ _ _ l (by omega) (fun j hj => HC.out _ _ _ (by omega))).mono ?_; rintro e w2 ⟨rfl, rfl⟩)
    rw [rounds_succ]
    go_wp2_with (go_at_call 58; refine (readWord_list _ w.heap.size _ _ _ l (by omega) (fun j hj => HC.out _ _ _ (by omega))).mono ?_; rintro e w2 ⟨rfl, rfl⟩)
    rw [rounds_succ]
    go_wp2_with (go_at_call 58; refine (readWord_list _ w.heap.size _ _ _ l (by omega) (fun j hj => HC.out _ _ _ (by omega))).mono ?_; rintro e w2 ⟨rfl, rfl⟩)
    first
      | exact bodyPost_ret (v := .agg (copyV l 0)) (by simp [results, Try.results47, go_sem, copyV]) rfl ⟨rfl, (three_alloc _ _ _ _).1⟩
      | exact bodyPost_ret (v := .agg (copyV l 1)) (by simp [results, Try.results47, go_sem, copyV]) rfl ⟨rfl, (three_alloc _ _ _ _).1⟩
      | exact bodyPost_ret (v := .agg (copyV l 2)) (by simp [results, Try.results47, go_sem, copyV]) rfl ⟨rfl, (three_alloc _ _ _ _).1⟩

end Go.Proofs.Ytefcconbpomedaa
