/- A disk with a log, between two calls. -/
/- Some answers that the document fixes: awake. -/
import Derived.Test.YteocmhbllckpjaaGreatXJ
import Derived.Test.YteocmhbllckpjaaGreatXL
import Derived.Deep.RegionHeld3
import Derived.Deep.MidRow
namespace Go.Proofs.YteocmhbllckpjaaGreat
open Go.ChangeShapes Go.WideShapes Go.ChangeAt Go.RowKit
open Go.ChangeMaps (setBlock)
set_option linter.unusedVariables false

theorem grown_below {w W W' : World} (h : w.heap.size ≤ W.heap.size) (hg : W.grownBy W' none) : Below w.heap.size W W' := (Only.of_grown hg).below h (fun k hk => by cases hk)
/-- A disk that is up, and of which all is kept. -/
structure Cl (w V : World) (r : Int) (D : DS) (i : Nat) : Prop where
  rep : ∃ who, Rep V w.heap.size (w.heap.size + 1) D who
  ji : JI r D i
  bel : Below w.heap.size w V
  clean : D.chs = []
/-- A disk that is down. -/
structure Dw (w V : World) (r : Int) (D : DS) (i : Nat) (Q : List UInt8 → List UInt8 → Prop) : Prop where
  rep : ∃ who, Rep V w.heap.size (w.heap.size + 1) D who
  jx : JX r D i
  bel : Below w.heap.size w V
  down : D.down = true
  safe : Safe Q (psOf D)
theorem Cl.grown {w V V' : World} {r : Int} {D : DS} {i : Nat} (h : Cl w V r D i) (hg : V.grownBy V' none) : Cl w V' r D i :=
  { h with rep := h.rep.imp fun who R => R.keep hg, bel := h.bel.trans (grown_below h.bel.size hg) }
/-- No frames. -/
def n0 : Nat → Nat := fun _ => 0
def e0 : Nat → Nat := fun _ => 1
def p0 : Nat → List UInt8 := fun _ => z256
theorem fra0 : Fra n0 e0 p0 := ⟨fun _ => Nat.zero_le _, fun _ => by unfold e0; omega, fun _ => .inr (by unfold e0; omega), fun _ => z256_length⟩
/-- A disk that is up, all kept, with that database and that log. -/
structure Wl (w V : World) (r : Int) (i : Nat) (db : List UInt8) (K : Nat) (N E : Nat → Nat) (P : Nat → List UInt8) : Prop where
  ex : ∃ D, Cl w V r D i ∧ D.fuse = 0 ∧ Lgx (seenOf D nmJ) K N E P ∧ seenOf D nmD = db
  fra : Fra N E P
  end_ : K = 0 ∨ E (K - 1) ≠ 0
theorem Wl.grown {w V V' : World} {r : Int} {i : Nat} {db : List UInt8} {K : Nat} {N E : Nat → Nat} {P : Nat → List UInt8} (h : Wl w V r i db K N E P) (hg : V.grownBy V' none) : Wl w V' r i db K N E P := by
  obtain ⟨D, a, b⟩ := h.ex
  exact ⟨⟨D, a.grown hg, b⟩, h.fra, h.end_⟩
theorem Wl.bel {w V : World} {r : Int} {i : Nat} {db : List UInt8} {K : Nat} {N E : Nat → Nat} {P : Nat → List UInt8} (h : Wl w V r i db K N E P) : Below w.heap.size w V := by
  obtain ⟨D, a, b⟩ := h.ex
  exact a.bel
theorem new_wl (w : World) (r : Int) (h0 : 0 ≤ r) : Calls Tryz.prog 8 #[.int .i64 r] w fun e w' => e = .returned (.pointer (some ⟨w.heap.size + 1, 0, none⟩)) ∧ Wl w w' r 0 [] 0 n0 e0 p0 :=
  Calls.mono (new_any w r h0) (fun e w' h => ⟨h.1, ⟨_, ⟨h.2.2, JI.fresh _ _, grown_below (Nat.le_refl _) h.2.1, rfl⟩, rfl, Lgx.zero (.inl ⟨rfl, rfl⟩), rfl⟩, fra0, .inl rfl⟩)
theorem ext_end {K m : Nat} {E : Nat → Nat} {c : Nat} (hm : 1 ≤ m) : K + m = 0 ∨ ext K E (fE m c) (K + m - 1) ≠ 0 := by
  right
  rw [show K + m - 1 = K + (m - 1) by omega, ext_ge]
  unfold fE
  rw [if_neg (by omega)]
  omega
theorem com_wl (w V : World) {r : Int} {i : Nat} {db : List UInt8} {K : Nat} {N E : Nat → Nat} {P : Nat → List UInt8} (h : Wl w V r i db K N E P) (old count : Nat) (hold : old = cntL db K E) (ho : old ≤ 10000) (hcount : count ≤ 4096) (p : Option Addr) (n cap m : Nat) (hm : m = max n 1) (Np : Nat → Nat) (L : Nat → List UInt8) (hp : PgA V p n (fun k => (Np k : Int)) L) (hn : n ≤ 60) (hi : i ≤ 10000) (hKm : K + m ≤ 180) (hr : ((db.length + 64 + 320 * (K + m) : Nat) : Int) ≤ r) (hmay : MayF old count n (fun k => (Np k : Int))) (hN : ∀ j, j < n → 1 ≤ Np j ∧ Np j ≤ count) (hLl : ∀ j, j < n → (L j).length = 256) :
    Calls Tryz.prog 20 #[.pointer (some ⟨w.heap.size + 1, 0, none⟩), .int .i64 (count : Int), .slice p n cap] V fun e w' => e = .returned (.tuple #[.int .i64 ((K + m : Nat) : Int), .int .i64 0]) ∧ ∃ i', i' ≤ i + 100 ∧ Wl w w' r i' db (K + m) (ext K N (fN n Np)) (ext K E (fE m count)) (ext K P (fP n L)) := by
  obtain ⟨D, hc, hf, hl, rfl⟩ := h.ex
  obtain ⟨who, R⟩ := hc.rep
  refine (commitW_x V _ _ D who R hc.ji hc.clean hl h.fra h.end_ old count hold ho hcount p n cap m hm Np L hp hn hi hKm hr hmay hN hLl).mono ?_
  rintro e w' (⟨rfl, D', who', i', hm', hj, hi', hch, hl', hd', hf'⟩ | ⟨_, hnz, _⟩)
  · exact ⟨rfl, i', hi', ⟨D', ⟨⟨who', hm'.rep⟩, hj, hc.bel.trans (hm'.mv.below R), hch⟩, hf' hf, hl', hd'⟩, fra_ext h.fra (fra_commit hm hcount hN hLl), ext_end (by omega)⟩
  · exact absurd hf hnz
theorem Wl.lgf {w V : World} {r : Int} {i : Nat} {db : List UInt8} {K : Nat} {N E : Nat → Nat} {P : Nat → List UInt8} (h : Wl w V r i db K N E P) (hK : K ≤ 180) : ∃ D who, Rep V w.heap.size (w.heap.size + 1) D who ∧ JI r D i ∧ Lgf (seenOf D nmJ) K N E P ∧ seenOf D nmD = db := by
  obtain ⟨D, hc, hf, hl, hd⟩ := h.ex
  obtain ⟨who, R⟩ := hc.rep
  exact ⟨D, who, R, hc.ji, hl.lgf hK h.fra h.end_, hd⟩
theorem page_wl (w V : World) {r : Int} {i : Nat} {db : List UInt8} {K : Nat} {N E : Nat → Nat} {P : Nat → List UInt8} (h : Wl w V r i db K N E P) (hK : K ≤ 180) (M : Nat) (hM : IsM K E M) (n : Nat) (hn : 1 ≤ n) (hc : n ≤ cntL db M E) :
    Calls Tryz.prog 19 #[.pointer (some ⟨w.heap.size + 1, 0, none⟩), .int .i64 (M : Int), .int .i64 (n : Int)] V fun x w' => x = .returned (.tuple #[.agg (bcs (pgAt db N P M n)).toArray, .int .i64 0]) ∧ V.grownBy w' none := by
  obtain ⟨D, who, R, hj, hl, rfl⟩ := h.lgf hK
  exact pageX_w V _ _ D who R hj hl M hM n hn hc
end Go.Proofs.YteocmhbllckpjaaGreat

namespace Go.Proofs.YteocmhbllckpjaaGreat
open Go.ChangeShapes Go.WideShapes Go.ChangeAt Go.RowKit
open Go.ChangeMaps (setBlock)
set_option linter.unusedVariables false

/-- The log behind the first commit, and behind the second one. -/
def a1N := ext 0 n0 (fN 2 aN)
def a1E := ext 0 e0 (fE 2 2)
def a1P := ext 0 p0 (fP 2 aL)
def a2N := ext 2 a1N (fN 1 (fun _ => 1))
def a2E := ext 2 a1E (fE 1 2)
def a2P := ext 2 a1P (fP 1 (fun _ => fullL three8))
theorem cnt1 : cntL [] 2 a1E = 2 := rfl
theorem cm_a (w V : World) (h : Wl w V 5000 0 [] 0 n0 e0 p0) (p : Option Addr) (cap : Nat) (hp : PgA V p 2 (fun k => (aN k : Int)) aL) :
    Calls Tryz.prog 20 #[.pointer (some ⟨w.heap.size + 1, 0, none⟩), .int .i64 2, .slice p 2 cap] V fun e w' => e = .returned (.tuple #[.int .i64 2, .int .i64 0]) ∧ ∃ i, i ≤ 100 ∧ Wl w w' 5000 i [] 2 a1N a1E a1P := by
  refine (com_wl w V h 0 2 rfl (by omega) (by omega) p 2 cap 2 rfl aN aL hp (by omega) (by omega) (by omega) (by decide) may2 (fun j hj => by unfold aN; omega) (fun j hj => by unfold aL; split <;> exact fullL_length _)).mono ?_
  rintro e w' ⟨rfl, i', hi, hw⟩
  exact ⟨rfl, i', by omega, hw⟩
theorem cm_b (w V : World) {i : Nat} (hi : i ≤ 100) (h : Wl w V 5000 i [] 2 a1N a1E a1P) (p : Option Addr) (cap : Nat) (hp : PgA V p 1 (fun _ => ((1 : Nat) : Int)) (fun _ => fullL three8)) :
    Calls Tryz.prog 20 #[.pointer (some ⟨w.heap.size + 1, 0, none⟩), .int .i64 2, .slice p 1 cap] V fun e w' => e = .returned (.tuple #[.int .i64 3, .int .i64 0]) ∧ ∃ i, i ≤ 200 ∧ Wl w w' 5000 i [] 3 a2N a2E a2P := by
  refine (com_wl w V h 2 2 cnt1.symm (by omega) (by omega) p 1 cap 1 rfl (fun _ => 1) (fun _ => fullL three8) hp (by omega) (by omega) (by omega) (by decide) may3 (fun j hj => by omega) (fun j hj => fullL_length _)).mono ?_
  rintro e w' ⟨rfl, i', hi', hw⟩
  exact ⟨rfl, i', by omega, hw⟩
theorem pg_a (w V : World) {i : Nat} (h : Wl w V 5000 i [] 3 a2N a2E a2P) : Calls Tryz.prog 19 #[.pointer (some ⟨w.heap.size + 1, 0, none⟩), .int .i64 2, .int .i64 1] V fun x w' => x = .returned (.tuple #[.agg (bcs (fullL one8)).toArray, .int .i64 0]) ∧ V.grownBy w' none :=
  page_wl w V h (by omega) 2 (.inr ⟨by omega, by decide⟩) 1 (by omega) (by decide)
theorem pg_b (w V : World) {i : Nat} (h : Wl w V 5000 i [] 3 a2N a2E a2P) : Calls Tryz.prog 19 #[.pointer (some ⟨w.heap.size + 1, 0, none⟩), .int .i64 1, .int .i64 1] V fun x w' => x = .returned (.tuple #[.agg (bcs z256).toArray, .int .i64 4]) ∧ V.grownBy w' none := by
  obtain ⟨D, who, R, hj, hl, hd⟩ := h.lgf (by omega)
  exact pageX_not V _ _ D who R hj hl 1 (by omega) (by omega) (by decide) 1

set_option maxHeartbeats 4000000 in
set_option maxRecDepth 20000 in
theorem awake_w (w : World) : Calls Tryz.prog 7 #[] w fun e w' => e = .returned (.bool true) ∧ Below w.heap.size w w' := by
  have HNw := hideJ (new_wl w 5000 (by decide))
  have HF1 : Hid (∀ V, Calls Tryz.prog 28 #[.int .u8 1] V fun e w' => e = .returned (.agg (bcs (fullL one8)).toArray) ∧ V.grownBy w' none) := fun V => full_j V one8
  have HF2 : Hid (∀ V, Calls Tryz.prog 28 #[.int .u8 2] V fun e w' => e = .returned (.agg (bcs (fullL two8)).toArray) ∧ V.grownBy w' none) := fun V => full_j V two8
  have HF3 : Hid (∀ V, Calls Tryz.prog 28 #[.int .u8 3] V fun e w' => e = .returned (.agg (bcs (fullL three8)).toArray) ∧ V.grownBy w' none) := fun V => full_j V three8
  have HB1 := hideJ built1
  have HB2 := hideJ built2
  have HB3 := hideJ built3
  have HL2 := hideJ fill2
  have HL3 := hideJ fill3
  have HCa : Hid (∀ V, Wl w V 5000 0 [] 0 n0 e0 p0 → Calls Tryz.prog 20 #[.pointer (some ⟨w.heap.size + 1, 0, none⟩), .int .i64 2, .slice (some ⟨V.heap.size, 0, none⟩) 2 2] (V.alloc (.cells cell2.toArray 72)) fun e w' => e = .returned (.tuple #[.int .i64 2, .int .i64 0]) ∧ ∃ i, i ≤ 100 ∧ Wl w w' 5000 i [] 2 a1N a1E a1P) :=
    fun V h => cm_a w _ (h.grown (World.grownBy_alloc _ _ _)) _ _ (pages2 V)
  have HCb : Hid (∀ V i, i ≤ 100 → Wl w V 5000 i [] 2 a1N a1E a1P → Calls Tryz.prog 20 #[.pointer (some ⟨w.heap.size + 1, 0, none⟩), .int .i64 2, .slice (some ⟨V.heap.size, 0, none⟩) 1 1] (V.alloc (.cells (pcl 1 (fullL three8)).toArray 72)) fun e w' => e = .returned (.tuple #[.int .i64 3, .int .i64 0]) ∧ ∃ i, i ≤ 200 ∧ Wl w w' 5000 i [] 3 a2N a2E a2P) :=
    fun V i hi h => cm_b w _ hi (h.grown (World.grownBy_alloc _ _ _)) _ _ (pages3 V)
  have HPa : Hid (∀ V i, Wl w V 5000 i [] 3 a2N a2E a2P → Calls Tryz.prog 19 #[.pointer (some ⟨w.heap.size + 1, 0, none⟩), .int .i64 2, .int .i64 1] V fun x w' => x = .returned (.tuple #[.agg (bcs (fullL one8)).toArray, .int .i64 0]) ∧ V.grownBy w' none) := fun V i h => pg_a w V h
  have HPb : Hid (∀ V i, Wl w V 5000 i [] 3 a2N a2E a2P → Calls Tryz.prog 19 #[.pointer (some ⟨w.heap.size + 1, 0, none⟩), .int .i64 1, .int .i64 1] V fun x w' => x = .returned (.tuple #[.agg (bcs z256).toArray, .int .i64 4]) ∧ V.grownBy w' none) := fun V i h => pg_b w V h
  have HU := hideJ Tryz.underlying49
  have HSz : Hid ((Tryz.prog.info? 49).map (·.size) = some (bcs (fullL one8)).length) := by
    have := size24 (fullL_length one8)
    rw [List.size_toArray] at this
    exact this
  have HI := hideJ (size24 (fullL_length one8))
  have HZz : Hid ((bcs (fullL one8)).toArray.size = (bcs z256).toArray.size) := by show _ = _; rw [List.size_toArray, List.size_toArray, length_bcs, length_bcs, fullL_length, z256_length]
  have HAl := hideJ (bytes_all (fullL one8))
  have HIz := hideJ (size24 z256_length)
  have HAz := hideJ (bytes_all z256)
  have HNn := hideJ new24
  have heq : ∀ V, (binOp .eql 49 (.agg (bcs (fullL one8)).toArray) (.agg (bcs (fullL one8)).toArray)).run Tryz.prog V = .ok (.bool true) V := fun V => eql24 V _ (fullL_length _)
  generalize (pcl 1 (fullL one8)).toArray = p1 at HB1 HL2
  generalize (pcl 2 (fullL two8)).toArray = p2 at HB2 HL2
  generalize (pcl 1 (fullL three8)).toArray = p4 at HB3 HL3 HCb
  generalize bcs (fullL one8) = c1 at HF1 HB1 HPa HSz HI HZz HAl heq
  generalize bcs (fullL two8) = c2 at HF2 HB2
  generalize bcs (fullL three8) = c3 at HF3 HB3
  generalize cell2.toArray = cc at HL2 HCa
  generalize bcs z256 = cz at HZz HNn HPb HIz HAz
  go_enter Tryz.func7, Tryz.ntmps7
  go_upto_region 6 with (first
    | (go_at_call 8; (with_reducible refine Calls.mono HNw.out ?_); rintro e w1 ⟨rfl, hg⟩; have HA1 := hideJ hg; clear hg)
    | (go_at_call 28; (with_reducible refine Calls.mono (HF1.out _) ?_); rintro e w2 ⟨rfl, hg⟩; have HA2 := hideJ (HA1.out.grown hg); clear hg)
    | (go_at_call 28; (with_reducible refine Calls.mono (HF2.out _) ?_); rintro e w3 ⟨rfl, hg⟩; have HA3 := hideJ (HA2.out.grown hg); clear hg)
    | (go_at_call 28; (with_reducible refine Calls.mono (HF3.out _) ?_); rintro e w5 ⟨rfl, hg⟩; have HA5 := hideJ (HA4.out.grown hg); clear hg)
    | ((with_reducible refine at67B ?_); first | refine wp_b67l HB1.out _ (by rfl) (by rfl) (by rfl) ?_ | refine wp_b67l HB2.out _ (by rfl) (by rfl) (by rfl) ?_ | refine wp_b67l HB3.out _ (by rfl) (by rfl) (by rfl) ?_)
    | ((with_reducible refine at22B ?_); first | refine wp_bs22l (by decide) HL2.out _ (by rfl) (by rfl) (by rfl) ?_ | refine wp_bs22l (by decide) HL3.out _ (by rfl) (by rfl) (by rfl) ?_)
    | (go_at_call 20; (with_reducible refine Calls.mono (HCa.out _ HA3.out) ?_); rintro e w4 ⟨rfl, i4, hi4, hg⟩; have HA4 := hideJ hg; have HI4 := hideJ hi4; clear hg hi4)
    | (go_at_call 20; (with_reducible refine Calls.mono (HCb.out _ _ HI4.out HA5.out) ?_); rintro e w6 ⟨rfl, i6, hi6, hg⟩; have HA6 := hideJ hg; clear hg hi6)
    | (go_at_call 19; (with_reducible refine Calls.mono (HPa.out _ _ HA6.out) ?_); rintro e w7 ⟨rfl, hg⟩; have HA7 := hideJ (HA6.out.grown hg); clear hg)
    | ((with_reducible refine at24S ?_); refine wp_storeB (c := c1.toArray) HI.out HZz.out HAl.out (HNn.out _) _ _ (by rfl) (by rfl) (by rfl) (by rfl) ?_; intro W5 hb5 ho5; have HB5 := hideJ hb5; have HA7' := hideJ (HA7.out.grown (grown_only (World.grownBy_alloc _ _ _) ho5 (Nat.le_refl _))); clear hb5 ho5)
    | (go_at_call 19; (with_reducible refine Calls.mono (HPb.out _ _ HA7'.out) ?_); rintro e w8 ⟨rfl, hg⟩; have HA8' := hideJ (HA7'.out.grown hg); have HB8' := hideJ (Blk.grown HB5.out hg); clear hg)
    | ((with_reducible refine at24S ?_); refine wp_storeB (c := cz.toArray) HIz.out (by rfl) HAz.out (HNn.out _) _ _ (by rfl) (by rfl) (by rfl) (by rfl) ?_; intro W8 hb8 ho8; have HA8 := hideJ (HA8'.out.grown (grown_only (World.grownBy_alloc _ _ _) ho8 (Nat.le_refl _))); have HB8 := hideJ (Blk.grown HB8'.out (grown_only (World.grownBy_alloc _ _ _) ho8 (Nat.le_refl _))); clear hb8 ho8))
  obtain ⟨g, hgg⟩ : ∃ g, g = w7.heap.size := ⟨_, rfl⟩
  rw [← hgg] at HB8 ⊢
  have HS5 : Hid (W8.drew.rangeAt g 0 c1) := range_of_blk2 (Blk.grown HB8.out (World.grownBy_drew _))
  refine wp_region_held_drew (S := fun V => V.rangeAt g 0 c1) (by kernel_rfl) HS5.out (fun hHeld => ?_)
  refine wpAnyH_take (i := 0) (v := .int .i64 2) rfl (by kernel_rfl) (by kernel_rfl) (by kernel_rfl) (fun _ _ _ h => h) (Or.inl ⟨by rfl, fun V hV => by go_simp⟩) hHeld ?_
  try simp only [Act.put, List.getElem_toArray, List.getElem_cons_zero, List.setIfInBounds_toArray, List.set_cons_zero, List.set_cons_succ]
  refine wpAnyH_take (i := 1) (v := .bool true) rfl (by kernel_rfl) (by kernel_rfl) (by kernel_rfl) (fun _ _ _ h => h) (Or.inl ⟨by rfl, fun V hV => by go_simp⟩) hHeld ?_
  try simp only [Act.put, List.getElem_toArray, List.getElem_cons_succ, List.getElem_cons_zero, List.setIfInBounds_toArray, List.set_cons_zero, List.set_cons_succ]
  refine wpAnyH_take (i := 2) (v := .bool true) rfl (by kernel_rfl) (by kernel_rfl) (by kernel_rfl) (fun _ _ _ h => h) (Or.inl ⟨by rfl, fun V hV => by go_simp⟩) hHeld ?_
  try simp only [Act.put, List.getElem_toArray, List.getElem_cons_succ, List.getElem_cons_zero, List.setIfInBounds_toArray, List.set_cons_zero, List.set_cons_succ]
  refine wpAnyH_take (i := 3) (v := .int .i64 3) rfl (by kernel_rfl) (by kernel_rfl) (by kernel_rfl) (fun _ _ _ h => h) (Or.inl ⟨by rfl, fun V hV => by go_simp⟩) hHeld ?_
  try simp only [Act.put, List.getElem_toArray, List.getElem_cons_succ, List.getElem_cons_zero, List.setIfInBounds_toArray, List.set_cons_zero, List.set_cons_succ]
  refine wpAnyH_take (i := 4) (v := .bool true) rfl (by kernel_rfl) (by kernel_rfl) (by kernel_rfl) (fun _ _ _ h => h) (Or.inl ⟨by rfl, fun V hV => by go_simp⟩) hHeld ?_
  try simp only [Act.put, List.getElem_toArray, List.getElem_cons_succ, List.getElem_cons_zero, List.setIfInBounds_toArray, List.set_cons_zero, List.set_cons_succ]
  refine wpAnyH_take (i := 5) (v := .bool true) rfl (by kernel_rfl) (by kernel_rfl) (by kernel_rfl) (fun _ _ _ h => h) (Or.inl ⟨by rfl, fun V hV => by go_simp⟩) hHeld ?_
  try simp only [Act.put, List.getElem_toArray, List.getElem_cons_succ, List.getElem_cons_zero, List.setIfInBounds_toArray, List.set_cons_zero, List.set_cons_succ]
  refine wpAnyH_take (i := 6) (v := .bool true) rfl (by kernel_rfl) (by kernel_rfl) (by kernel_rfl) (fun _ _ _ h => h) (Or.inl ⟨by rfl, fun V hV => by go_simp⟩) hHeld ?_
  try simp only [Act.put, List.getElem_toArray, List.getElem_cons_succ, List.getElem_cons_zero, List.setIfInBounds_toArray, List.set_cons_zero, List.set_cons_succ]
  refine wpAnyH_take (i := 7) (v := .int .i64 0) rfl (by kernel_rfl) (by kernel_rfl) (by kernel_rfl) (fun _ _ _ h => h) (Or.inl ⟨by rfl, fun V hV => by go_simp⟩) hHeld ?_
  try simp only [Act.put, List.getElem_toArray, List.getElem_cons_succ, List.getElem_cons_zero, List.setIfInBounds_toArray, List.set_cons_zero, List.set_cons_succ]
  refine wpAnyH_take (i := 8) (v := .bool true) rfl (by kernel_rfl) (by kernel_rfl) (by kernel_rfl) (fun _ _ _ h => h) (Or.inl ⟨by rfl, fun V hV => by go_simp⟩) hHeld ?_
  try simp only [Act.put, List.getElem_toArray, List.getElem_cons_succ, List.getElem_cons_zero, List.setIfInBounds_toArray, List.set_cons_zero, List.set_cons_succ]
  refine wpAnyH_take (i := 9) (v := .bool true) rfl (by kernel_rfl) (by kernel_rfl) (by kernel_rfl) (fun _ _ _ h => h) (Or.inl ⟨by rfl, fun V hV => by go_simp⟩) hHeld ?_
  try simp only [Act.put, List.getElem_toArray, List.getElem_cons_succ, List.getElem_cons_zero, List.setIfInBounds_toArray, List.set_cons_zero, List.set_cons_succ]
  refine wpAnyH_take (i := 10) (v := .bool true) rfl (by kernel_rfl) (by kernel_rfl) (by kernel_rfl) (fun _ _ _ h => h) (Or.inl ⟨by rfl, fun V hV => by go_simp⟩) hHeld ?_
  try simp only [Act.put, List.getElem_toArray, List.getElem_cons_succ, List.getElem_cons_zero, List.setIfInBounds_toArray, List.set_cons_zero, List.set_cons_succ]
  refine wpAnyH_take (i := 11) (v := .int .i64 0) rfl (by kernel_rfl) (by kernel_rfl) (by kernel_rfl) (fun _ _ _ h => h) (Or.inl ⟨by rfl, fun V hV => by go_simp⟩) hHeld ?_
  try simp only [Act.put, List.getElem_toArray, List.getElem_cons_succ, List.getElem_cons_zero, List.setIfInBounds_toArray, List.set_cons_zero, List.set_cons_succ]
  refine wpAnyH_take (i := 12) (v := .bool true) rfl (by kernel_rfl) (by kernel_rfl) (by kernel_rfl) (fun _ _ _ h => h) (Or.inl ⟨by rfl, fun V hV => by go_simp⟩) hHeld ?_
  try simp only [Act.put, List.getElem_toArray, List.getElem_cons_succ, List.getElem_cons_zero, List.setIfInBounds_toArray, List.set_cons_zero, List.set_cons_succ]
  refine wpAnyH_take (i := 13) (v := .bool true) rfl (by kernel_rfl) (by kernel_rfl) (by kernel_rfl) (fun _ _ _ h => h) (Or.inl ⟨by rfl, fun V hV => by go_simp⟩) hHeld ?_
  try simp only [Act.put, List.getElem_toArray, List.getElem_cons_succ, List.getElem_cons_zero, List.setIfInBounds_toArray, List.set_cons_zero, List.set_cons_succ]
  refine wpAnyH_take (i := 14) (v := .bool true) rfl (by kernel_rfl) (by kernel_rfl) (by kernel_rfl) (fun _ _ _ h => h) (Or.inl ⟨by rfl, fun V hV => by go_simp⟩) hHeld ?_
  try simp only [Act.put, List.getElem_toArray, List.getElem_cons_succ, List.getElem_cons_zero, List.setIfInBounds_toArray, List.set_cons_zero, List.set_cons_succ]
  refine wpAnyH_take (i := 15) (v := .int .i64 0) rfl (by kernel_rfl) (by kernel_rfl) (by kernel_rfl) (fun _ _ _ h => h) (Or.inl ⟨by rfl, fun V hV => by go_simp⟩) hHeld ?_
  try simp only [Act.put, List.getElem_toArray, List.getElem_cons_succ, List.getElem_cons_zero, List.setIfInBounds_toArray, List.set_cons_zero, List.set_cons_succ]
  refine wpAnyH_take (i := 16) (v := .bool true) rfl (by kernel_rfl) (by kernel_rfl) (by kernel_rfl) (fun _ _ _ h => h) (Or.inl ⟨by rfl, fun V hV => by go_simp⟩) hHeld ?_
  try simp only [Act.put, List.getElem_toArray, List.getElem_cons_succ, List.getElem_cons_zero, List.setIfInBounds_toArray, List.set_cons_zero, List.set_cons_succ]
  refine wpAnyH_take (i := 17) (v := .bool true) rfl (by kernel_rfl) (by kernel_rfl) (by kernel_rfl) (fun _ _ _ h => h) (Or.inl ⟨by rfl, fun V hV => by go_simp⟩) hHeld ?_
  try simp only [Act.put, List.getElem_toArray, List.getElem_cons_succ, List.getElem_cons_zero, List.setIfInBounds_toArray, List.set_cons_zero, List.set_cons_succ]
  refine wpAnyH_take (i := 18) (v := .bool true) rfl (by kernel_rfl) (by kernel_rfl) (by kernel_rfl) (fun _ _ _ h => h) (Or.inl ⟨by rfl, fun V hV => by go_simp⟩) hHeld ?_
  try simp only [Act.put, List.getElem_toArray, List.getElem_cons_succ, List.getElem_cons_zero, List.setIfInBounds_toArray, List.set_cons_zero, List.set_cons_succ]
  refine wpAnyH_take (i := 19) (v := .agg c1.toArray) rfl (by kernel_rfl) (by kernel_rfl) (by kernel_rfl) (fun _ _ _ h => h) (yieldsIf_load_mid (by rfl) _ _ rfl _ _ rfl _ _ (fun V hV => hV) HU.out rfl HSz.out) hHeld ?_
  try simp only [Act.put, List.getElem_toArray, List.getElem_cons_succ, List.getElem_cons_zero, List.setIfInBounds_toArray, List.set_cons_zero, List.set_cons_succ]
  refine wpAnyH_ready (rs := [20]) (by kernel_rfl) (by simp) ?_
  refine AllReadyH.cons rfl (fun KK hK => ?_) AllReadyH.nil
  go_simp
  go_at_call 28; (with_reducible refine Calls.mono (HF1.out _) ?_); rintro e w9 ⟨rfl, hg⟩; have HA9 := hideJ (HA8.out.grown (grown_drew_then hg)); have HB9 := hideJ (Blk.grown HB8.out (grown_drew_then hg)); clear hg
  go_wp2_with fail
  refine hK.out _ _ (range_of_blk2 HB9.out) (fun hHeld => ?_)
  clear hK KK
  try simp only [Act.put, List.getElem_toArray, List.getElem_cons_succ, List.getElem_cons_zero, List.setIfInBounds_toArray, List.set_cons_zero, List.set_cons_succ]
  refine wpAnyH_take (i := 21) (v := .bool true) rfl (by kernel_rfl) (by kernel_rfl) (by kernel_rfl) (fun _ _ _ h => h) (Or.inl ⟨by rfl, fun V hV => by go_simp⟩) hHeld ?_
  try simp only [Act.put, List.getElem_toArray, List.getElem_cons_succ, List.getElem_cons_zero, List.setIfInBounds_toArray, List.set_cons_zero, List.set_cons_succ]
  refine wpAnyH_take (i := 22) (v := .bool true) rfl (by kernel_rfl) (by kernel_rfl) (by kernel_rfl) (fun _ _ _ h => h) (Or.inl ⟨by rfl, fun V hV => by go_simp⟩) hHeld ?_
  try simp only [Act.put, List.getElem_toArray, List.getElem_cons_succ, List.getElem_cons_zero, List.setIfInBounds_toArray, List.set_cons_zero, List.set_cons_succ]
  refine wpAnyH_take (i := 23) (v := .bool true) rfl (by kernel_rfl) (by kernel_rfl) (by kernel_rfl) (fun _ _ _ h => h) (Or.inl ⟨by rfl, fun V hV => by go_simp⟩) hHeld ?_
  try simp only [Act.put, List.getElem_toArray, List.getElem_cons_succ, List.getElem_cons_zero, List.setIfInBounds_toArray, List.set_cons_zero, List.set_cons_succ]
  refine wpAnyH_take (i := 24) (v := .int .i64 4) rfl (by kernel_rfl) (by kernel_rfl) (by kernel_rfl) (fun _ _ _ h => h) (Or.inl ⟨by rfl, fun V hV => by go_simp⟩) hHeld ?_
  try simp only [Act.put, List.getElem_toArray, List.getElem_cons_succ, List.getElem_cons_zero, List.setIfInBounds_toArray, List.set_cons_zero, List.set_cons_succ]
  refine wpAnyH_take (i := 25) (v := .bool true) rfl (by kernel_rfl) (by kernel_rfl) (by kernel_rfl) (fun _ _ _ h => h) (Or.inl ⟨by rfl, fun V hV => by go_simp⟩) hHeld ?_
  try simp only [Act.put, List.getElem_toArray, List.getElem_cons_succ, List.getElem_cons_zero, List.setIfInBounds_toArray, List.set_cons_zero, List.set_cons_succ]
  refine wpAnyH_take (i := 26) (v := .bool true) rfl (by kernel_rfl) (by kernel_rfl) (by kernel_rfl) (fun _ _ _ h => h) (Or.inl ⟨by rfl, fun V hV => by go_simp⟩) hHeld ?_
  try simp only [Act.put, List.getElem_toArray, List.getElem_cons_succ, List.getElem_cons_zero, List.setIfInBounds_toArray, List.set_cons_zero, List.set_cons_succ]
  refine wpAnyH_take (i := 27) (v := .bool true) rfl (by kernel_rfl) (by kernel_rfl) (by kernel_rfl) (fun _ _ _ h => h) (Or.inl ⟨by rfl, fun V hV => by go_simp⟩) hHeld ?_
  try simp only [Act.put, List.getElem_toArray, List.getElem_cons_succ, List.getElem_cons_zero, List.setIfInBounds_toArray, List.set_cons_zero]
  refine wpAnyH_done (by kernel_rfl) ?_ _
  go_wp2_with fail
  go_ret
  exact ⟨rfl, HA9.out.bel⟩
end Go.Proofs.YteocmhbllckpjaaGreat
