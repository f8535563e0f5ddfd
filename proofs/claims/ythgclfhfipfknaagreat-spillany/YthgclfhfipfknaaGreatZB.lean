/- Savepoints: what a transaction has is copied. -/
/- Savepoints: content.clone. -/
import Derived.Test.YthgclfhfipfknaaGreatTM
import Derived.Shelf.SlMaps.Clone
import Derived.Test.YthgclfhfipfknaaGreatSJ
namespace Go.Proofs.YthgclfhfipfknaaGreat
variable {sv : Value}
open Go.ChangeShapes Go.WideShapes Go.ChangeAt Go.RowKit Go.Maps
set_option linter.unusedVariables false

set_option maxRecDepth 20000 in
set_option maxHeartbeats 2000000 in
theorem mclone_e (w : World) (pm K n : Nat) {P : Nat → List UInt8} (h : MpI w pm K n P) : Calls Tryz.prog 248 #[.map (some pm)] w fun e w' => e = .returned (.map (some w.heap.size)) ∧ MpI w' w.heap.size K n P ∧ Below w.heap.size w w' := by
  obtain ⟨D, hD, hm, hp⟩ := h
  obtain ⟨es, clock, hb, F, hs, hDD⟩ := hD
  have HR : Hid (MpI (w.alloc (.map es clock)) w.heap.size K n P ∧ Below w.heap.size w (w.alloc (.map es clock))) := hide ⟨⟨D, ⟨es, clock, (MapKept.heap_alloc w _).1, F, hs, hDD⟩, hm, hp⟩, below_alloc _ _⟩
  have hq := fun w => run_eql_map_nil_sl (P := Tryz.prog) w 115 _ _ (some pm) Tryz.underlying115
  have HE := hide (fun (args : Array Value) (w : World) => run_callFunc_extern Tryz.func295 (by kernel_rfl) (by kernel_rfl) (by kernel_rfl) (e := Extern.MapsClone.clone) (by kernel_rfl) args w)
  clear hm hp hs hDD F
  go_enter Tryz.func248, Tryz.ntmps248
  go_wp2
  rw [HE.out, run_maps_clone_sl w 115 hb]
  simp only [Result.andThen]
  rw [Oper.upon_value]
  go_wp2
  rw [run_typeAssert_map_sl _ 115 _ _ _ _ Tryz.underlying115]
  simp only [Result.andThen]
  rw [Oper.upon_value]
  go_wp2
  go_ret
  exact ⟨rfl, HR.out⟩
theorem infoCo : (Tryz.prog.info? 117).map (·.size) = some 2 := by kernel_rfl
theorem uCo : ∃ d, Tryz.prog.underlying 117 = some d ∧ d.isRow = true := ⟨_, Tryz.underlying117, rfl⟩
end Go.Proofs.YthgclfhfipfknaaGreat

namespace Go.Proofs.YthgclfhfipfknaaGreat
variable {sv : Value}
open Go.ChangeShapes Go.WideShapes Go.ChangeAt Go.RowKit Go.Maps
set_option linter.unusedVariables false

theorem two_cells {W : World} {b : Nat} {a c : Value} {ty : TypeId} (h : Blk W b #[a, c] ty) : W.cell? ⟨b, 0, none⟩ = some a ∧ W.cell? ⟨b, 1, none⟩ = some c := ⟨h.cell 0, h.cell 1⟩
theorem step_storeB {ops : Array Oper} {o : Oper} {a : Act} {w : World} {K : Act → World → Prop} {Q : Exit → Act → World → Prop} {E : Prop} {g : Nat} {t : TypeId} {c z : Array Value} (hi : (Tryz.prog.info? t).map (·.size) = some c.size) (hs : c.size = z.size) (h1 : c.all (·.oneCell') = true) (hg : Blk w g z t) (x y : Operand)
    (hgd : o.guard = none) (ho : o.op = .store t x y) (hx : a.eval x = .pointer (some ⟨g, 0, none⟩)) (hy : a.eval y = .agg c)
    (h : ∀ W', Blk W' g c t → Only [g] w W' → K (a.put o.dst undef) W') : if Region.wanted o (yielded ops a.tmps) = true then Oper.wp Tryz.prog o a w K Q else E := by
  have hw : Region.wanted o (yielded ops a.tmps) = true := by simp [Region.wanted, hgd]
  rw [if_pos hw]
  exact wp_store_row t x y ho g c hx hy t z hg hi hs.symm h1 (h _ (setRow_heap w g _ _ _ _ hg) ⟨rfl, rfl, rfl, by simp [World.setRow], fun k _ hk => heap_setRow w g _ k (fun e => hk (by simp [e]))⟩)
theorem co_one (a : Int) (q : Nat) : (#[Value.int .i64 a, .map (some q)]).all (·.oneCell') = true := all_oneCell_toArray (cs := [Value.int .i64 a, .map (some q)]) (by intro v hv; simp at hv; rcases hv with rfl | rfl <;> rfl)
set_option maxRecDepth 20000 in
set_option maxHeartbeats 1000000 in
theorem clone_e (w : World) (pm K n : Nat) {P : Nat → List UInt8} (h : MpI w pm K n P) : Calls Tryz.prog 191 #[.agg #[.int .i64 (n : Int), .map (some pm)]] w fun e w' => ∃ q, e = .returned (.agg #[.int .i64 (n : Int), .map (some q)]) ∧ MpI w' q K n P ∧ Below w.heap.size w w' ∧ w.heap.size ≤ q := by
  obtain ⟨w1, hw1⟩ : ∃ w1, w1 = w.alloc (.cells #[.int .i64 (n : Int), .map (some pm)] 117) := ⟨_, rfl⟩
  obtain ⟨w2, hw2⟩ : ∃ w2, w2 = w1.alloc (.cells #[.int .i64 0, .map none] 117) := ⟨_, rfl⟩
  have hb1 : Below w.heap.size w w1 := by rw [hw1]; exact below_alloc _ _
  have hb2 : Below w.heap.size w w2 := below_trans hb1 (by rw [hw2]; exact below_alloc _ _)
  have k1 : Blk w2 w.heap.size #[.int .i64 (n : Int), .map (some pm)] 117 := by
    have : Blk w1 w.heap.size #[.int .i64 (n : Int), .map (some pm)] 117 := by rw [hw1]; exact Blk.new _ _ _
    exact this.later (by rw [hw2]; exact below_alloc _ _)
  have k2 : Blk w2 w1.heap.size #[.int .i64 0, .map none] 117 := by rw [hw2]; exact Blk.new _ _ _
  have HB2 := hide hb2
  have HC := hide (fun (V : World) (hb : Below w2.heap.size w2 V) => two_cells (k1.later hb))
  have HS0 := hide (HC.out _ (below_drew w2))
  have HZ := hide k2
  have HM := hide (fun (V : World) (hb : Below w2.heap.size w2 V) => mclone_e V pm K n (h.later (below_trans hb2 hb)))
  have HI := hide infoCo
  have HK := hide k1
  have HW := hide (show w.heap.size ≤ w1.heap.size from hb1.size)
  have HN := hide (show w.heap.size ≠ w1.heap.size by rw [hw1]; simp)
  clear h hb1 hb2 k1 k2
  go_enter Tryz.func191, Tryz.ntmps191
  go_upto_region 1 with fail
  rw [← hw1, ← hw2]
  have hsz : w.heap.size + 1 = w1.heap.size := by rw [hw1]; simp
  simp only [hsz]
  clear hw1 hw2 hsz
  go_region_held3 (fun V => V.cell? ⟨w.heap.size, 0, none⟩ = some (.int .i64 (n : Int)) ∧ V.cell? ⟨w.heap.size, 1, none⟩ = some (.map (some pm))) (first | with_reducible exact HS0.out | with_reducible exact HS3.out | with_reducible exact HS4.out) (first
    | (go_at_call 248; (with_reducible refine Calls.mono (HM.out _ (below_drew w2)) ?_); rintro e w3 ⟨rfl, hm, hb⟩; have HM3 := hide hm; have HB3 := hide (below_trans (below_drew w2) hb); have HS3 := hide (HC.out _ (below_trans (below_drew w2) hb)); have HZ3 := hide (Blk.later HZ.out (below_trans (below_drew w2) hb)); have HK3 := hide (Blk.later HK.out (below_trans (below_drew w2) hb)); have z0 := (two_cells HZ3.out).1; have z1 := (two_cells HZ3.out).2; have f0 := HZ3.out.frozen 0; have f1 := HZ3.out.frozen 1; have HS4 := hide (two_cells (Blk.setOther (Blk.setOther HK3.out HN.out 0 (.int .i64 (n : Int))) HN.out 1 (.map (some w2.heap.size)))); clear hm hb))
  all_goals (try go_wp2)
  have hb4 := Blk.set (Blk.set HZ3.out 0 (.int .i64 (n : Int))) 1 (.map (some w2.heap.size))
  have hlt := HZ.out.lt
  refine ret_blk (c := #[.int .i64 (n : Int), .map (some w2.heap.size)]) HI.out uCo Tryz.results191 (by rfl) hb4 ?_
  refine ⟨_, rfl, ((show MpI w3 w2.heap.size K n P from HM3.out).kept (grownBy_cell _ _ _ _) (by simp; omega)).kept (grownBy_cell _ _ _ _) (by simp; omega), ?_, ?_⟩
  · have := HW.out
    exact (((below_trans HB2.out HB3.out).setCell (p := ⟨w1.heap.size, 0, none⟩) this _).setCell (p := ⟨w1.heap.size, 1, none⟩) this _)
  · have := HW.out
    omega
end Go.Proofs.YthgclfhfipfknaaGreat
