/- The contract of a file's sector over whatever world. -/
import Derived.Test.YteocmhbllckpjaaGreatD
import Derived.Lib.ItoaWalk
namespace Go.Proofs.YteocmhbllckpjaaGreat
open Go.ChangeShapes Go.WideShapes Go.ChangeAt Go.RowKit
set_option linter.unusedVariables false

/-- A sector of a file's bytes: 0 behind their end. -/
def secOf (l : List UInt8) (k : Nat) : List UInt8 := splice (List.replicate 64 0) 0 ((l.drop (k * 64)).take 64)

theorem alloc_new (w : World) (o : Obj) : (w.alloc o).heap[w.heap.size]? = some o := by
  show (w.heap.push o)[w.heap.size]? = _
  simp

theorem two_alloc (w : World) (A B : Obj) : w.grownBy ((w.alloc A).alloc B) none ∧ ((w.alloc A).alloc B).heap.size = w.heap.size + 2 ∧ ((w.alloc A).alloc B).heap[w.heap.size]? = some A ∧ ((w.alloc A).alloc B).heap[w.heap.size + 1]? = some B := by
  refine ⟨⟨rfl, rfl, rfl, by simp; omega, fun k hk _ => ?_⟩, by simp, ?_, ?_⟩
  · rw [Below.heap_alloc _ _ _ (by simp; omega), Below.heap_alloc _ _ _ hk]
  · rw [Below.heap_alloc _ _ _ (by simp), alloc_new]
  · have := alloc_new (w.alloc A) B
    simpa using this

set_option maxRecDepth 100000 in
theorem sector_at (w : World) (b o : Nat) (c : Array Value) (t : TypeId) (base : Nat) (v : Value) (l : List UInt8) (k : Nat) (hb : Blk w b c t) (hc : c[o]? = some v) (hown : Own w base v l)
    (hk : k * 64 < l.length) (hl : l.length ≤ 1048576) :
    Calls Tryz.prog 136 #[.pointer (some ⟨b, o, none⟩), .int .i64 k] w fun e w' => e = .returned (.agg (bcs (secOf l k)).toArray) ∧ w.grownBy w' none := by
  have h0 : w.cell? ⟨b, o, none⟩ = some v := (hb.cell o).trans hc
  have hblt := hb.lt
  rcases hown.2 with ⟨rfl, hz⟩ | ⟨g, cap, cur, rfl, hbg, hg, hnc, hcm, hcs, htake⟩
  · omega
  · have h1 : (k : Int) * 64 < (l.length : Int) := by omega
    have h2 : (l.length : Int) ≤ (cap : Int) := by omega
    have h3 : (k : Int) * 64 ≤ (l.length : Int) := by omega
    have h4 : k * 64 < cap := by omega
    clear hb
    unfold maxLen at hcm
    go_enter Tryz.func136, Tryz.ntmps136
    go_wp2
    go_name_world W hW
    have hW' := two_alloc w (.cells (List.replicate 64 (Value.int .u8 0)).toArray 110) (.cells (List.replicate 64 (Value.int .u8 0)).toArray 110)
    rw [show ((w.alloc (.cells (List.replicate 64 (Value.int .u8 0)).toArray 110)).alloc (.cells (List.replicate 64 (Value.int .u8 0)).toArray 110)) = W from hW] at hW'
    obtain ⟨hgr, hsz, hA, hB⟩ := hW'
    clear hW
    have h0' : W.cell? ⟨b, o, none⟩ = some (.slice (some ⟨g, 0, none⟩) l.length cap) := hgr.cell h0 (by simp)
    have hg' : W.heap[g]? = some (.cells cur 5 (0, 0)) := (hgr.block g (Array.getElem?_eq_some_iff.1 hg).1 (by simp)).trans hg
    have hcl : ((bcs (l.drop (k * 64))).take 64).length = min 64 (l.length - k * 64) := by simp [length_bcs]
    have hcell : ∀ j u, (bcs l)[j]? = some u → W.cell? ((⟨g, 0, none⟩ : Addr).add j) = some u := fun j u hj => by
      have := hown.cells (g := g) rfl j u hj
      rw [Addr.add_lit] at this ⊢
      exact hgr.cell this (by simp)
    have hcp := run_copy_row (P := Tryz.prog) W.drew 62 62 3 5 (w.heap.size + 1) 0 64 64 ⟨g, k * 64, none⟩ (l.length - k * 64) (cap - k * 64) (List.replicate 64 (Value.int .u8 0)).toArray 110 ((bcs (l.drop (k * 64))).take 64) Tryz.underlying62 bytes_size hB (by rw [hcl]; exact Nat.min_comm _ _)
      (fun j u hj => by
        have h1 : (bcs l)[k * 64 + j]? = some u := by
          rw [List.getElem?_take] at hj
          split at hj
          · simpa [bcs] using hj
          · cases hj
        have := hcell _ _ h1
        rw [Addr.add_lit] at this ⊢
        simpa using this) (by rw [hcl]; simp; omega) (fun u hu => one_bcs _ u (List.mem_of_mem_take hu))
    obtain ⟨N, hN⟩ : ∃ N : Int, N = ((bcs (l.drop (k * 64))).take 64).length := ⟨_, rfl⟩
    obtain ⟨X, hX⟩ : ∃ X : Array Value, X = (bcs (secOf l k)).toArray := ⟨_, rfl⟩
    have hcp' : (Builtin.copy_ #[62, 62] 3 #[.slice (some ⟨w.heap.size + 1, 0, none⟩) 64 64, .slice (some ⟨g, k * 64, none⟩) (l.length - k * 64) (cap - k * 64)]).run Tryz.prog W.drew = .ok (goInt N) (W.drew.setRow (w.heap.size + 1) X) := by
      rw [hcp, hN, hX]
      congr 3
      simp [secOf, bcs, splice, List.map_take, List.map_drop]
    have hXs : X.size = 64 := by rw [hX]; simp [length_bcs, secOf]; rw [length_splice] <;> simp; omega
    have hX1 : X.all (·.oneCell') = true := by rw [hX]; exact Array.all_eq_true_iff_forall_mem.2 (fun v hv => one_bcs _ v (by simpa using hv))
    have hA2 : (W.drew.setRow (w.heap.size + 1) X).heap[w.heap.size]? = some (.cells (List.replicate 64 (Value.int .u8 0)).toArray 110 (0, 0)) := by rw [setRow_other _ _ _ _ (by omega)]; exact hA
    have hB2 : (W.drew.setRow (w.heap.size + 1) X).heap[w.heap.size + 1]? = some (.cells X 110 (0, 0)) := setRow_heap W.drew _ _ _ _ _ hB
    have i42 : (Tryz.prog.info? 110).map (·.size) = some X.size := by rw [hXs]; kernel_rfl
    have HA : Hid ((W.drew.setRow (w.heap.size + 1) X).heap[w.heap.size]? = some (.cells (List.replicate 64 (Value.int .u8 0)).toArray 110 (0, 0))) := hA2
    have HB : Hid ((W.drew.setRow (w.heap.size + 1) X).heap[w.heap.size + 1]? = some (.cells X 110 (0, 0))) := hB2
    have HX : Hid (X = (bcs (secOf l k)).toArray) := hX
    have HS : Hid (X.size = 64) := hXs
    have HI : Hid ((Tryz.prog.info? 110).map (·.size) = some X.size) := i42
    have HO : Hid (X.all (·.oneCell') = true) := hX1
    clear hcell hcl hcp hN hX hXs hX1 hA hB hA2 hB2 i42 hg hg' hown hc h0 htake hcs
    go_region
    go_wp2_with (first
      | refine wpList_load_row rfl 110 (.tmp 5) rfl (w.heap.size + 1) (by simp [Act.eval]) 110 X (0, 0) _ HB.out Tryz.underlying110 rfl HI.out ?_
      | refine wpList_store_row rfl 110 (.tmp 4) (.tmp 16) rfl w.heap.size X (by simp [Act.eval, Act.put]) (by simp [Act.eval, Act.put]) 110 _ HA.out HI.out (by rw [HS.out]; rfl) HO.out ?_)
    refine bodyPost_ret (v := .agg X) (results_cell_row Tryz.results136 _ _ w.heap.size 110 X (0, 0) _ rfl (setRow_heap _ _ _ _ _ _ HA.out) Tryz.underlying110 rfl HI.out) rfl ⟨by rw [HX.out], ?_⟩
    refine ⟨hgr.os, hgr.tape, hgr.output, by simp [hsz], fun j hj _ => ?_⟩
    rw [setRow_other _ _ _ _ (by omega), setRow_other _ _ _ _ (by omega)]
    exact hgr.block j hj (by simp)

end Go.Proofs.YteocmhbllckpjaaGreat
