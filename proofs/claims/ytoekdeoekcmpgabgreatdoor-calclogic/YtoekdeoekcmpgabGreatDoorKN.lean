/- Package calc: the function values of arithmetic. -/
import Derived.Test.YtoekdeoekcmpgabGreatDoorKM
namespace Go.Proofs.YtoekdeoekcmpgabGreatDoor
open Go.ChangeShapes Go.WideShapes Go.ChangeAt Go.RowKit
set_option linter.unusedVariables false

theorem lt_of_cell {w : World} {a : Addr} {v : Value} (h : w.cell? a = some v) : a.block < w.heap.size := by
  refine Nat.lt_of_not_le fun hn => ?_
  have : w.heap[a.block]? = none := by simp; exact hn
  rw [World.cell?_of_block (w := World.mk #[] w.tape w.drawn w.os w.output) (w' := w) (by rw [this]; simp)] at h
  simp [World.cell?] at h

/-- Two parameters' cells, and an old one, in every world that differs above them alone. -/
theorem pr2_cells (w : World) (k n : Int) (t : ByteArray) (k2 n2 : Int) (t2 : ByteArray) (p2 : Nat) (fv : Value) (h2 : w.cell? ⟨p2, 0, none⟩ = some fv) (V : World) (h : Below (w.heap.size + 1 + 1) (((w.alloc (vcells k n t)).alloc (vcells k2 n2 t2)).alloc nilcells) V) :
    V.cell? ⟨p2, 0, none⟩ = some fv ∧ (V.cell? ⟨w.heap.size, 0, none⟩ = some (.int .i64 k) ∧ V.cell? ⟨w.heap.size, 1, none⟩ = some (.int .i64 n) ∧ V.cell? ⟨w.heap.size, 2, none⟩ = some (.string t)) ∧
    (V.cell? ⟨w.heap.size + 1, 0, none⟩ = some (.int .i64 k2) ∧ V.cell? ⟨w.heap.size + 1, 1, none⟩ = some (.int .i64 n2) ∧ V.cell? ⟨w.heap.size + 1, 2, none⟩ = some (.string t2)) := by
  obtain ⟨⟨p0, p1, p2'⟩, ⟨q0, q1, q2⟩, _, _, _⟩ := pr2_later w k n t k2 n2 t2 _ (Below.refl _ _)
  have hp := old_cell3 h2 (vcells k n t) (vcells k2 n2 t2) nilcells
  have hl := lt_of_cell h2
  refine ⟨(h.cell (by show p2 < _; have : p2 < w.heap.size := hl; omega)).trans hp, ⟨(h.cell (by show w.heap.size < _; omega)).trans p0, (h.cell (by show w.heap.size < _; omega)).trans p1, (h.cell (by show w.heap.size < _; omega)).trans p2'⟩, (h.cell (by show w.heap.size + 1 < _; omega)).trans q0, (h.cell (by show w.heap.size + 1 < _; omega)).trans q1, (h.cell (by show w.heap.size + 1 < _; omega)).trans q2⟩

set_option maxHeartbeats 1000000 in
set_option maxRecDepth 10000 in
theorem clo2_walk (g : Int → Int → Option Int) (f : Nat) (k n : Int) (t : ByteArray) (k2 n2 : Int) (t2 : ByteArray)
    (HF : Hid (∀ x y, numO k n t.data.toList = some x → numO k2 n2 t2.data.toList = some y → ∀ p V, V.cell? ⟨p, 0, none⟩ = some (.func (.func f) #[] #[]) → Calls Tryz.prog 54 #[val 1 x ⟨#[]⟩, val 1 y ⟨#[]⟩, .pointer (some ⟨p, 0, none⟩)] V fun e w' => e = .returned (optV (g x y)) ∧ Below V.heap.size V w')) (p2 : Nat) (w : World) (hE : Env w) (hA : ArFn w p2 f) :
    Calls Tryz.prog 55 #[val k n t, val k2 n2 t2, .pointer (some ⟨p2, 0, none⟩)] w fun e w' => e = .returned (optV (arO g (numO k n t.data.toList) (numO k2 n2 t2.data.toList))) ∧ Below w.heap.size w w' := by
  obtain ⟨p3, p1, h1, h2, h3⟩ := hA.c
  have HW : Hid (∀ V, _ → _) := pr2_later w k n t k2 n2 t2
  have HB0 : Hid (Below w.heap.size w (((w.alloc (vcells k n t)).alloc (vcells k2 n2 t2)).alloc nilcells)) := (pr2_later w k n t k2 n2 t2 _ (Below.refl _ _)).2.2.2.2
  have hc3 := old_cell3 h1 (vcells k n t) (vcells k2 n2 t2) nilcells
  have HC1 : Hid (∀ V, Below (w.heap.size + 1 + 1) (((w.alloc (vcells k n t)).alloc (vcells k2 n2 t2)).alloc nilcells) V → _) := pr2_cells w k n t k2 n2 t2 p2 _ h1
  have HG : Hid (∀ V, Below (((w.alloc (vcells k n t)).alloc (vcells k2 n2 t2)).alloc nilcells).heap.size (((w.alloc (vcells k n t)).alloc (vcells k2 n2 t2)).alloc nilcells) V → Below (w.heap.size + 1 + 1) (((w.alloc (vcells k n t)).alloc (vcells k2 n2 t2)).alloc nilcells) V) := fun V h => h.mono (by simp)
  have HE : Hid (∀ V, Below w.heap.size w V → Env V) := fun V h => hE.below h
  have HNa : Hid (∀ V, Env V → Calls Tryz.prog 19 #[.agg #[.int .i64 k, .int .i64 n, .string t]] V fun e w' => e = .returned (optV (numO k n t.data.toList)) ∧ Below V.heap.size V w') := fun V hV => num_walk k n t V hV
  have HNb : Hid (∀ V, Env V → Calls Tryz.prog 19 #[.agg #[.int .i64 k2, .int .i64 n2, .string t2]] V fun e w' => e = .returned (optV (numO k2 n2 t2.data.toList)) ∧ Below V.heap.size V w') := fun V hV => num_walk k2 n2 t2 V hV
  have HU : Hid (∀ V, Below w.heap.size w V → Calls Tryz.prog 58 #[optV (numO k n t.data.toList), optV (numO k2 n2 t2.data.toList), .pointer (some ⟨p3, 0, none⟩)] V fun e w' => e = .returned (optV (arO g (numO k n t.data.toList) (numO k2 n2 t2.data.toList))) ∧ Below V.heap.size V w') := fun V hV =>
    clo3_walk g f _ _ HF.out p3 p1 V (cell_later hV h2) (cell_later hV h3)
  generalize numO k n t.data.toList = a at HNa HU ⊢
  generalize numO k2 n2 t2.data.toList = b at HNb HU ⊢
  clear HF
  obtain ⟨a1, a2, a3, ha⟩ := optV_val a
  obtain ⟨b1, b2, b3, hb⟩ := optV_val b
  obtain ⟨c1, c2, c3, hc⟩ := optV_val (arO g a b)
  rw [ha] at HNa HU
  rw [hb] at HNb HU
  rw [hc] at HU ⊢
  clear ha hb hc h1 h2 h3 hA hE
  have HD : Hid (∀ V, Below (((w.alloc (vcells k n t)).alloc (vcells k2 n2 t2)).alloc nilcells).drew.heap.size (((w.alloc (vcells k n t)).alloc (vcells k2 n2 t2)).alloc nilcells).drew V → Below (((w.alloc (vcells k n t)).alloc (vcells k2 n2 t2)).alloc nilcells).heap.size (((w.alloc (vcells k n t)).alloc (vcells k2 n2 t2)).alloc nilcells) V) := fun V h => below_trans (Below.refl _ _).drew h
  have HBd : Hid (Below w.heap.size w (((w.alloc (vcells k n t)).alloc (vcells k2 n2 t2)).alloc nilcells).drew) := HB0.out.drew
  go_enter Tryz.func55, Tryz.ntmps55
  go_wp2
  go_region_held3 (fun V => V.cell? ⟨p2, 0, none⟩ = some (.func (.func 58) #[] #[.pointer (some ⟨p3, 0, none⟩)]) ∧ (V.cell? ⟨w.heap.size, 0, none⟩ = some (.int .i64 k) ∧ V.cell? ⟨w.heap.size, 1, none⟩ = some (.int .i64 n) ∧ V.cell? ⟨w.heap.size, 2, none⟩ = some (.string t)) ∧ (V.cell? ⟨w.heap.size + 1, 0, none⟩ = some (.int .i64 k2) ∧ V.cell? ⟨w.heap.size + 1, 1, none⟩ = some (.int .i64 n2) ∧ V.cell? ⟨w.heap.size + 1, 2, none⟩ = some (.string t2))) (first | exact HC1.out _ (HG.out _ (Below.refl _ _).drew) | exact HC1.out _ (HG.out _ HX1.out) | exact HC1.out _ (HG.out _ HX2.out) | exact HC1.out _ (HG.out _ HX3.out) | exact HC1.out _ ((((HG.out _ HX3.out).setCell (Nat.le_refl _) _).setCell (Nat.le_refl _) _).setCell (Nat.le_refl _) _)) (first
    | (go_at_call 19; with_reducible refine Calls.mono (HNa.out _ (HE.out _ HBd.out)) ?_; rintro e w1 ⟨rfl, hb1⟩; have HX1 := hide (HD.out _ hb1); obtain ⟨⟨p0, p1, p2⟩, ⟨q0, q1, q2⟩, ⟨d0, d1, d2, f0, f1, f2⟩, HK1, HB1⟩ := HW.out _ HX1.out; clear hb1)
    | (go_at_call 19; with_reducible refine Calls.mono (HNb.out _ (HE.out _ HB1.out)) ?_; rintro e w2 ⟨rfl, hb2⟩; have HX2 := hide (below_trans HX1.out hb2); obtain ⟨⟨p0, p1, p2⟩, ⟨q0, q1, q2⟩, ⟨d0, d1, d2, f0, f1, f2⟩, HK2, HB2⟩ := HW.out _ HX2.out; clear hb2)
    | (go_at_call 58; with_reducible refine Calls.mono (HU.out _ HB2.out) ?_; rintro e w3 ⟨rfl, hb3⟩; have HX3 := hide (below_trans HX2.out hb3); obtain ⟨⟨p0, p1, p2⟩, ⟨q0, q1, q2⟩, ⟨d0, d1, d2, f0, f1, f2⟩, HK3, HB3⟩ := HW.out _ HX3.out; clear hb3))
  all_goals (try go_wp2)
  all_goals exact ret_valg Tryz.results55 rfl HK3.out ⟨rfl, below_set3g HB3.out (Nat.le_succ_of_le (Nat.le_succ _)) _ _ _⟩
end Go.Proofs.YtoekdeoekcmpgabGreatDoor
