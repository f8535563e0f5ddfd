/- The contracts of the changes' maker and of its closure over whatever world. -/
import Derived.Test.YtefcconbpomedaaE
namespace Go.Proofs.Ytefcconbpomedaa
open Go.ChangeShapes Go.WideShapes Go.ChangeAt Go.RowKit
set_option linter.unusedVariables false

/-- The cells of a change. -/
def chg (nm : ByteArray) (sector size : Int) (data : List UInt8) : List Value := [.string nm, .int .i64 sector, .int .i64 size] ++ bcs data

theorem length_chg (nm : ByteArray) (sector size : Int) (data : List UInt8) : (chg nm sector size data).length = 3 + data.length := by simp [chg, length_bcs]; omega
theorem one_chg (nm : ByteArray) (sector size : Int) (data : List UInt8) : ∀ v ∈ chg nm sector size data, v.oneCell' = true := by
  intro v hv
  simp only [chg, List.cons_append, List.nil_append, List.mem_cons] at hv
  rcases hv with rfl | rfl | rfl | hv
  · rfl
  · rfl
  · rfl
  · exact one_bcs data v hv

theorem store_all {P : Program} (w : World) (g : Nat) (t : TypeId) (vs : List Value) (cur : Array Value) (hg : w.heap[g]? = some (.cells cur t (0, 0))) (hl : vs.length = cur.size) (h1 : ∀ v ∈ vs, v.oneCell' = true) :
    (storeCells ⟨g, 0, none⟩ vs).run P w = .ok () (w.setRow g vs.toArray) := by
  have := run_storeCells_at P g 0 t vs 0 cur w hg (by omega) h1
  rw [this]
  simp only [Nat.add_zero, Nat.zero_add, List.take_zero, List.nil_append, hl]
  rw [List.drop_of_length_le (by simp), List.append_nil]

theorem zeros75 (nm : ByteArray) (n : Int) (s : Int) : (((Try.zeroCells75.toList.set 0 (Value.string nm)).set 1 (Value.int IntKind.i64 s)).set 2 (Value.int IntKind.i64 n)) = chg nm s n (List.replicate 64 0) := rfl
theorem info75s : (Try.prog.info? 75).map (·.size) = some 67 := by kernel_rfl
theorem zeros75_size : Try.zeroCells75.size = 67 := by kernel_rfl

theorem changer_any (w : World) (b o : Nat) (nm : ByteArray) :
    Calls Try.prog 51 #[.pointer (some ⟨b, o, none⟩), .string nm] w fun e w' => e = .returned (.func (.func 59) #[] #[.pointer (some ⟨w.heap.size + 1, 0, none⟩), .pointer (some ⟨w.heap.size, 0, none⟩)]) ∧ w' = (w.alloc (.cells #[.pointer (some ⟨b, o, none⟩)] 57)).alloc (.cells #[.string nm] 9) := by
  go_enter Try.func51, Try.ntmps51
  go_wp2
  go_ret
  exact ⟨rfl, rfl⟩

set_option maxRecDepth 100000 in
theorem change_size (w : World) (nb sb b o : Nat) (nm : ByteArray) (a : Option Addr) (n c : Nat) (hn : w.cell? ⟨nb, 0, none⟩ = some (.string nm)) (hs : w.cell? ⟨sb, 0, none⟩ = some (.pointer (some ⟨b, o, none⟩)))
    (h : w.cell? ⟨b, o, none⟩ = some (.slice a n c)) :
    Calls Try.prog 59 #[.int .i64 (-1), .pointer (some ⟨nb, 0, none⟩), .pointer (some ⟨sb, 0, none⟩)] w fun e w' => e = .returned (.agg (chg nm (-1) n (List.replicate 64 0)).toArray) ∧ w.grownBy w' none := by
  go_enter Try.func59, Try.ntmps59
  go_wp2
  have hz := alloc_new w (.cells Try.zeroCells75 75)
  have hgr := World.grownBy_alloc w (.cells Try.zeroCells75 75) none
  have hs1 : (w.alloc (.cells Try.zeroCells75 75)).heap.size = w.heap.size + 1 := by simp
  go_name_world W hW
  rw [hW] at hz hgr hs1
  clear hW
  have hn' := hgr.cell hn (by simp)
  have hs' := hgr.cell hs (by simp)
  have h' := hgr.cell h (by simp)
  obtain ⟨X, hX⟩ : ∃ X : Array Value, X = (chg nm (-1) n (List.replicate 64 0)).toArray := ⟨_, rfl⟩
  have hst : (storeCells ⟨w.heap.size, 0, none⟩ (((Try.zeroCells75.toList.set 0 (Value.string nm)).set 1 (Value.int IntKind.i64 (-1))).set 2 (Value.int IntKind.i64 n))).run Try.prog W.drew = .ok () (W.drew.setRow w.heap.size X) := by
    rw [zeros75, hX]
    exact store_all W.drew _ 75 _ _ hz (by rw [length_chg, zeros75_size]; rfl) (one_chg _ _ _ _)
  have hXs : (Try.prog.info? 75).map (·.size) = some X.size := by
    have e : X.size = 67 := by rw [hX, List.size_toArray, length_chg]; rfl
    rw [e]; exact info75s
  have HX : Hid (X = (chg nm (-1) n (List.replicate 64 0)).toArray) := hX
  have HI : Hid ((Try.prog.info? 75).map (·.size) = some X.size) := hXs
  have HZ : Hid (W.heap[w.heap.size]? = some (.cells Try.zeroCells75 75 (0, 0))) := hz
  clear hn hs h hX hXs hz
  go_region_with (go_at_call 37; refine (size_of W.drew b o a n c h').mono ?_; rintro e w2 ⟨rfl, rfl⟩)
  all_goals
    go_wp2
    refine bodyPost_ret (v := .agg X) (results_cell_row Try.results59 _ _ w.heap.size 75 X (0, 0) _ rfl (setRow_heap W.drew _ _ _ _ _ HZ.out) Try.underlying75 rfl HI.out) rfl ⟨by rw [HX.out], ?_⟩
    refine ⟨hgr.os, hgr.tape, hgr.output, by simp [hs1], fun j hj _ => ?_⟩
    rw [setRow_other _ _ _ _ (by omega)]
    exact hgr.block j hj (by simp)

end Go.Proofs.Ytefcconbpomedaa
