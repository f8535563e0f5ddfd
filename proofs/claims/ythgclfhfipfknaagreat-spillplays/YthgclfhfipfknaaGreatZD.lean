/- Savepoints: what a transaction has is copied. -/
/- Savepoints: content.clone. -/
/- Savepoints in memory; Save. -/
/- Savepoints: Save. -/
import Derived.Test.YthgclfhfipfknaaGreatTM
import Derived.Shelf.SlMaps.Clone
import Derived.Test.YthgclfhfipfknaaGreatSJ
import Derived.Deep.AppendLies
import Derived.Test.YthgclfhfipfknaaGreatGG
namespace Go.Proofs.YthgclfhfipfknaaGreat
variable {sv : Value}
open Go.ChangeShapes Go.WideShapes Go.ChangeAt Go.RowKit Go.Maps
set_option linter.unusedVariables false

set_option maxRecDepth 20000 in
set_option maxHeartbeats 2000000 in
theorem mclone_e (w : World) (pm K n : Nat) {P : Nat → List UInt8} (h : MpI w pm K n P) : Calls Tryz.prog 248 #[.map (some pm)] w fun e w' => e = .returned (.map (some w.heap.size)) ∧ MpI w' w.heap.size K n P ∧ Below w.heap.size w w' := by
  obtain ⟨D, hD, hm, hp⟩ := h
  obtain ⟨es, clock, hb, F, hs, hDD⟩ := hD
  have HR : Hid (MpI (w.alloc (.map es clock)) w.heap.size K n P ∧ Below w.heap.size w (w.alloc (.map es clock))) := hide ⟨⟨D, ⟨es, clock, (MapKept.heap_alloc w _).1, F, hs, hDD⟩, hm, hp⟩, below_alloc _ _⟩
  have hq := fun w => run_eql_map_nil_sl (P := Tryz.prog) w 115 _ _ (some pm) Tryz.underlying115
  have HE := hide (fun (args : Array Value) (w : World) => run_callFunc_extern Tryz.func295 (by kernel_rfl) (by kernel_rfl) (by kernel_rfl) (e := Extern.MapsClone.clone) (by kernel_rfl) args w)
  clear hm hp hs hDD F
  go_enter Tryz.func248, Tryz.ntmps248
  go_wp2
  rw [HE.out, run_maps_clone_sl w 115 hb]
  simp only [Result.andThen]
  rw [Oper.upon_value]
  go_wp2
  rw [run_typeAssert_map_sl _ 115 _ _ _ _ Tryz.underlying115]
  simp only [Result.andThen]
  rw [Oper.upon_value]
  go_wp2
  go_ret
  exact ⟨rfl, HR.out⟩
theorem infoCo : (Tryz.prog.info? 117).map (·.size) = some 2 := by kernel_rfl
theorem uCo : ∃ d, Tryz.prog.underlying 117 = some d ∧ d.isRow = true := ⟨_, Tryz.underlying117, rfl⟩
end Go.Proofs.YthgclfhfipfknaaGreat

namespace Go.Proofs.YthgclfhfipfknaaGreat
variable {sv : Value}
open Go.ChangeShapes Go.WideShapes Go.ChangeAt Go.RowKit Go.Maps
set_option linter.unusedVariables false

theorem two_cells {W : World} {b : Nat} {a c : Value} {ty : TypeId} (h : Blk W b #[a, c] ty) : W.cell? ⟨b, 0, none⟩ = some a ∧ W.cell? ⟨b, 1, none⟩ = some c := ⟨h.cell 0, h.cell 1⟩
theorem step_storeB {ops : Array Oper} {o : Oper} {a : Act} {w : World} {K : Act → World → Prop} {Q : Exit → Act → World → Prop} {E : Prop} {g : Nat} {t : TypeId} {c z : Array Value} (hi : (Tryz.prog.info? t).map (·.size) = some c.size) (hs : c.size = z.size) (h1 : c.all (·.oneCell') = true) (hg : Blk w g z t) (x y : Operand)
    (hgd : o.guard = none) (ho : o.op = .store t x y) (hx : a.eval x = .pointer (some ⟨g, 0, none⟩)) (hy : a.eval y = .agg c)
    (h : ∀ W', Blk W' g c t → Only [g] w W' → K (a.put o.dst undef) W') : if Region.wanted o (yielded ops a.tmps) = true then Oper.wp Tryz.prog o a w K Q else E := by
  have hw : Region.wanted o (yielded ops a.tmps) = true := by simp [Region.wanted, hgd]
  rw [if_pos hw]
  exact wp_store_row t x y ho g c hx hy t z hg hi hs.symm h1 (h _ (setRow_heap w g _ _ _ _ hg) ⟨rfl, rfl, rfl, by simp [World.setRow], fun k _ hk => heap_setRow w g _ k (fun e => hk (by simp [e]))⟩)
theorem co_one (a : Int) (q : Nat) : (#[Value.int .i64 a, .map (some q)]).all (·.oneCell') = true := all_oneCell_toArray (cs := [Value.int .i64 a, .map (some q)]) (by intro v hv; simp at hv; rcases hv with rfl | rfl <;> rfl)
set_option maxRecDepth 20000 in
set_option maxHeartbeats 1000000 in
theorem clone_e (w : World) (pm K n : Nat) {P : Nat → List UInt8} (h : MpI w pm K n P) : Calls Tryz.prog 191 #[.agg #[.int .i64 (n : Int), .map (some pm)]] w fun e w' => ∃ q, e = .returned (.agg #[.int .i64 (n : Int), .map (some q)]) ∧ MpI w' q K n P ∧ Below w.heap.size w w' ∧ w.heap.size ≤ q := by
  obtain ⟨w1, hw1⟩ : ∃ w1, w1 = w.alloc (.cells #[.int .i64 (n : Int), .map (some pm)] 117) := ⟨_, rfl⟩
  obtain ⟨w2, hw2⟩ : ∃ w2, w2 = w1.alloc (.cells #[.int .i64 0, .map none] 117) := ⟨_, rfl⟩
  have hb1 : Below w.heap.size w w1 := by rw [hw1]; exact below_alloc _ _
  have hb2 : Below w.heap.size w w2 := below_trans hb1 (by rw [hw2]; exact below_alloc _ _)
  have k1 : Blk w2 w.heap.size #[.int .i64 (n : Int), .map (some pm)] 117 := by
    have : Blk w1 w.heap.size #[.int .i64 (n : Int), .map (some pm)] 117 := by rw [hw1]; exact Blk.new _ _ _
    exact this.later (by rw [hw2]; exact below_alloc _ _)
  have k2 : Blk w2 w1.heap.size #[.int .i64 0, .map none] 117 := by rw [hw2]; exact Blk.new _ _ _
  have HB2 := hide hb2
  have HC := hide (fun (V : World) (hb : Below w2.heap.size w2 V) => two_cells (k1.later hb))
  have HS0 := hide (HC.out _ (below_drew w2))
  have HZ := hide k2
  have HM := hide (fun (V : World) (hb : Below w2.heap.size w2 V) => mclone_e V pm K n (h.later (below_trans hb2 hb)))
  have HI := hide infoCo
  have HK := hide k1
  have HW := hide (show w.heap.size ≤ w1.heap.size from hb1.size)
  have HN := hide (show w.heap.size ≠ w1.heap.size by rw [hw1]; simp)
  clear h hb1 hb2 k1 k2
  go_enter Tryz.func191, Tryz.ntmps191
  go_upto_region 1 with fail
  rw [← hw1, ← hw2]
  have hsz : w.heap.size + 1 = w1.heap.size := by rw [hw1]; simp
  simp only [hsz]
  clear hw1 hw2 hsz
  go_region_held3 (fun V => V.cell? ⟨w.heap.size, 0, none⟩ = some (.int .i64 (n : Int)) ∧ V.cell? ⟨w.heap.size, 1, none⟩ = some (.map (some pm))) (first | with_reducible exact HS0.out | with_reducible exact HS3.out | with_reducible exact HS4.out) (first
    | (go_at_call 248; (with_reducible refine Calls.mono (HM.out _ (below_drew w2)) ?_); rintro e w3 ⟨rfl, hm, hb⟩; have HM3 := hide hm; have HB3 := hide (below_trans (below_drew w2) hb); have HS3 := hide (HC.out _ (below_trans (below_drew w2) hb)); have HZ3 := hide (Blk.later HZ.out (below_trans (below_drew w2) hb)); have HK3 := hide (Blk.later HK.out (below_trans (below_drew w2) hb)); have z0 := (two_cells HZ3.out).1; have z1 := (two_cells HZ3.out).2; have f0 := HZ3.out.frozen 0; have f1 := HZ3.out.frozen 1; have HS4 := hide (two_cells (Blk.setOther (Blk.setOther HK3.out HN.out 0 (.int .i64 (n : Int))) HN.out 1 (.map (some w2.heap.size)))); clear hm hb))
  all_goals (try go_wp2)
  have hb4 := Blk.set (Blk.set HZ3.out 0 (.int .i64 (n : Int))) 1 (.map (some w2.heap.size))
  have hlt := HZ.out.lt
  refine ret_blk (c := #[.int .i64 (n : Int), .map (some w2.heap.size)]) HI.out uCo Tryz.results191 (by rfl) hb4 ?_
  refine ⟨_, rfl, ((show MpI w3 w2.heap.size K n P from HM3.out).kept (grownBy_cell _ _ _ _) (by simp; omega)).kept (grownBy_cell _ _ _ _) (by simp; omega), ?_, ?_⟩
  · have := HW.out
    exact (((below_trans HB2.out HB3.out).setCell (p := ⟨w1.heap.size, 0, none⟩) this _).setCell (p := ⟨w1.heap.size, 1, none⟩) this _)
  · have := HW.out
    omega
end Go.Proofs.YthgclfhfipfknaaGreat

namespace Go.Proofs.YthgclfhfipfknaaGreat
variable {sv : Value}
open Go.ChangeShapes Go.WideShapes Go.ChangeAt Go.RowKit Go.Maps
set_option linter.unusedVariables false

/-- What a savepoint keeps: how many pages, in which map, how often one was put, the pages. -/
structure Sn where
  n : Nat
  pm : Nat
  K : Nat
  P : Nat → List UInt8
def snC (s : Sn) : List Value := [.int .i64 (s.n : Int), .map (some s.pm)]
def svL (S : List Sn) : List Value := S.flatMap snC
theorem svL_length (S : List Sn) : (svL S).length = S.length * 2 := by
  induction S with
  | nil => rfl
  | cons s S ih => simp only [svL, List.flatMap_cons, List.length_append] at ih ⊢; rw [ih]; simp [snC]; omega
/-- A transaction's savepoints. -/
structure Sv (w : World) (base : Nat) (sv : Value) (S : List Sn) (pm : Nat) : Prop where
  row : w.ownsRow base 117 2 sv S.length (svL S)
  each : ∀ s ∈ S, MpI w s.pm s.K s.n s.P ∧ base ≤ s.pm ∧ s.pm ≠ pm ∧ (∀ k, (s.P k).length = 256) ∧ s.n ≤ 4096
theorem MpI.only {w w' : World} {pm K n : Nat} {P : Nat → List UInt8} (h : MpI w pm K n P) {X : List Nat} (ho : Only X w w') (hn : pm ∉ X) : MpI w' pm K n P := by
  obtain ⟨D, ⟨es, cl, he, q⟩, h2, h3⟩ := h
  exact ⟨D, ⟨es, cl, ho.blk he hn, q⟩, h2, h3⟩
theorem own_only2 {w w' : World} {base e size n : Nat} {v : Value} {xs : List Value} {X : List Nat} (h : w.ownsRow base e size v n xs) (ho : Only X w w') (hS : ∀ g, v.ownBlock = some g → g ∉ X) : w'.ownsRow base e size v n xs := by
  refine ⟨h.1, ?_⟩
  rcases h.2 with h0 | ⟨g, cap, cur, hv, hb, hh, rest⟩
  · exact .inl h0
  · exact .inr ⟨g, cap, cur, hv, hb, ho.blk hh (hS g (by rw [hv]; rfl)), rest⟩
theorem ownC_blk {w : World} {base n e size : Nat} {v : Value} {xs : List Value} (h : w.ownsRow base e size v n xs) {g : Nat} (hg : v.ownBlock = some g) : base ≤ g ∧ ∃ c, Blk w g c e := by
  rcases h.2 with ⟨rfl, _⟩ | ⟨g', cap, cur, rfl, hb, hh, _⟩
  · cases hg
  · simp only [Value.ownBlock, Option.some.injEq] at hg
    subst hg
    exact ⟨hb, cur, hh⟩
theorem MpI.obj {w : World} {pm K n : Nat} {P : Nat → List UInt8} (h : MpI w pm K n P) : ∃ es cl, w.heap[pm]? = some (.map es cl) := by
  obtain ⟨D, ⟨es, cl, he, q⟩, h2, h3⟩ := h
  exact ⟨es, cl, he⟩
/-- Savepoints beside what changes blocks that are none of theirs. -/
theorem Sv.only {w w' : World} {base : Nat} {S : List Sn} {pm : Nat} (h : Sv w base sv S pm) {X : List Nat} (ho : Only X w w') (h1 : ∀ g, sv.ownBlock = some g → g ∉ X) (h2 : ∀ s ∈ S, s.pm ∉ X) : Sv w' base sv S pm :=
  ⟨own_only2 h.row ho h1, fun s hs => ⟨(h.each s hs).1.only ho (h2 s hs), (h.each s hs).2⟩⟩
theorem Sv.later {w w' : World} {base : Nat} {S : List Sn} {pm : Nat} (h : Sv w base sv S pm) (hb : Below w.heap.size w w') : Sv w' base sv S pm := h.only (Only.of_below (S := []) hb) (by simp) (by simp)
theorem Tr.blk {w : World} {t pm n : Nat} {P : Nat → List UInt8} {K : Nat} {wr : Bool} (h : Tr sv w t pm n P K wr) : ∃ cs, Blk w t cs 122 := by
  obtain ⟨⟨j, d, mb, l, room, L, c, h1, h2, h3⟩, h4, h5, h6⟩ := h
  exact ⟨_, h2⟩
/-- Savepoints beside a change of the transaction's pages. -/
theorem Sv.tx {w w' : World} {base t n : Nat} {S : List Sn} {pm : Nat} {P : Nat → List UInt8} {K : Nat} {wr : Bool} (h : Sv w base sv S pm) (ht : Tr sv w t pm n P K wr) (ho : Only [t, pm] w w') : Sv w' base sv S pm := by
  obtain ⟨cs, hc⟩ := ht.blk
  obtain ⟨es, cl, he⟩ := ht.mp.obj
  refine h.only ho (fun g hg hk => ?_) (fun s hs hk => ?_)
  · obtain ⟨_, c, hb⟩ := ownC_blk h.row hg
    simp only [List.mem_cons, List.not_mem_nil, or_false] at hk
    rcases hk with rfl | rfl
    · exact blk_ne hb hc (by decide) rfl
    · exact blk_map hb he rfl
  · obtain ⟨es', cl', he'⟩ := (h.each s hs).1.obj
    simp only [List.mem_cons, List.not_mem_nil, or_false] at hk
    rcases hk with hk | hk
    · exact blk_map hc he' hk.symm
    · exact (h.each s hs).2.2.1 hk
theorem co_info : ∃ i z, Tryz.prog.info? 117 = some i ∧ i.zero = some z ∧ i.size = 2 ∧ i.bytes = 16 ∧ z.cells.size = 2 := by
  have h : (Tryz.prog.info? 117).map (fun i => (i.zero, i.size, i.bytes)) = some (some (.agg #[.int .i64 0, .map none]), 2, 16) := by kernel_rfl
  obtain ⟨i, h1, h2⟩ := Option.map_eq_some_iff.1 h
  simp only [Prod.mk.injEq] at h2
  exact ⟨i, _, h1, h2.1, h2.2.1, h2.2.2, rfl⟩
theorem snC_one (s : Sn) : ∀ u ∈ snC s, u.oneCell' = true := by
  intro u hu
  simp only [snC, List.mem_cons, List.not_mem_nil, or_false] at hu
  rcases hu with rfl | rfl <;> rfl
/-- What an append leaves alone. -/
def ApC (base : Nat) (v v' : Value) (w w' : World) : Prop := w.grownBy w' v.ownBlock ∧ (v'.ownBlock = v.ownBlock ∨ v'.ownBlock = some w.heap.size)
theorem step_appC {ops : Array Oper} {o : Oper} {a : Act} {K : Act → World → Prop} {Q : Exit → Act → World → Prop} {E : Prop} {W : World} {base n : Nat} {v : Value} {xs : List Value} (s : Sn) (hown : W.ownsRow base 117 2 v n xs) (hn : n ≤ 1000) (hbase : base ≤ W.heap.size) (x y : Operand) (hgd : o.guard = none) (ho : o.op = .call { callee := .builtin .append, args := #[x, y], argTypes := #[120, 120] })
    (hs : a.eval x = v) (hx : a.eval y = .slice (some ⟨W.heap.size, 0, none⟩) 1 1)
    (hk : ∀ g cap w', w'.ownsRow base 117 2 (.slice (some ⟨g, 0, none⟩) (n + 1) cap) (n + 1) (xs ++ snC s) → ApC base v (.slice (some ⟨g, 0, none⟩) (n + 1) cap) (W.alloc (.cells (snC s).toArray 117)) w' → K (a.put o.dst (.slice (some ⟨g, 0, none⟩) (n + 1) cap)) w') :
    if Region.wanted o (yielded ops a.tmps) = true then Oper.wp Tryz.prog o a (W.alloc (.cells (snC s).toArray 117)) K Q else E := by
  obtain ⟨i, z, hi, hz0, hz1, hz2, hz3⟩ := co_info
  have hu2 := hown.alloc (.cells (snC s).toArray 117)
  have hnews : ∀ j u, (snC s)[j]? = some u → (W.alloc (.cells (snC s).toArray 117)).cell? ((⟨W.heap.size, 0, none⟩ : Addr).add j) = some u := fun j u hj => by
    rw [show (⟨W.heap.size, 0, none⟩ : Addr).add j = ⟨W.heap.size, j, none⟩ by unfold Addr.add; split <;> simp_all]
    have hb : Blk (W.alloc (.cells (snC s).toArray 117)) W.heap.size (snC s).toArray 117 := Blk.new _ _ _
    rw [hb.cell]; simpa using hj
  refine step_append_lies (w := W.alloc (.cells (snC s).toArray 117)) hgd x y 120 ho base 117 i z 2 16 Tryz.underlying120 hi hz0 hz1 hz2 hz3 (by omega) v n xs hs hu2 ⟨W.heap.size, 0, none⟩ 1 1 (snC s) hx rfl hnews (snC_one s) (by omega) (by simp only [maxLen]; omega) (by omega) (by simp; omega) _ rfl ?_
  intro g cap w' hown hgr hgg hlt
  refine hk g cap w' hown ⟨hgr, ?_⟩
  rcases hgg with h | h
  · exact .inl (by rw [h]; rfl)
  · exact .inr (by rw [← h]; rfl)
end Go.Proofs.YthgclfhfipfknaaGreat

namespace Go.Proofs.YthgclfhfipfknaaGreat
variable {sv : Value}
open Go.ChangeShapes Go.WideShapes Go.ChangeAt Go.RowKit Go.Maps
set_option linter.unusedVariables false

/-- A transaction beside a change of rows of savepoints. -/
theorem Tr.onlyC {w V : World} {t pm n : Nat} {P : Nat → List UInt8} {K : Nat} {wr : Bool} {X : List Nat} (h : Tr sv w t pm n P K wr) (ho : Only X w V) (hS : ∀ b ∈ X, ∃ c, Blk w b c 117) : Tr sv V t pm n P K wr := by
  obtain ⟨⟨j, d, mb, l, room, L, cn, h1, h2, h3⟩, h4, h5, h6⟩ := h
  obtain ⟨es, cl, he⟩ := h4.obj
  have hk : ∀ {b : Nat} {c : Array Value} {ty : TypeId}, Blk w b c ty → ty ≠ 117 → b ∉ X := fun {b c ty} hb n1 hm => by
    obtain ⟨c', hb'⟩ := hS _ hm
    exact blk_ne hb hb' n1 rfl
  have hmp : ∀ {b : Nat} {es : Array MapEntry} {cl : Nat}, w.heap[b]? = some (.map es cl) → b ∉ X := fun {b es cl} hb hm => by
    obtain ⟨c', hb'⟩ := hS _ hm
    exact blk_map hb' hb rfl
  exact ⟨⟨j, d, mb, l, room, L, cn, h1.only ho (hk h1.jr (by decide)) (hk h1.de.blk (by decide)) (hmp h1.de.mp) (hk h1.lk (by decide)), Blk.only h2 ho (hk h2 (by decide)), h3⟩, h4.only ho (hmp he), h5, h6⟩
/-- The savepoints' row is written anew. -/
theorem Tr.setS {w : World} {t pm n : Nat} {P : Nat → List UInt8} {K : Nat} {wr : Bool} (h : Tr sv w t pm n P K wr) (v : Value) : Tr v (w.setCell ⟨t, 5, none⟩ v) t pm n P K wr := by
  obtain ⟨⟨j, d, mb, l, room, L, cn, h1, h2, h3⟩, h4, h5, h6⟩ := h
  obtain ⟨es, cl, he⟩ := h4.obj
  have hn := blk_map h2 he
  exact ⟨⟨j, d, mb, l, room, L, cn, h1.tx h2 (Only.setCell w ⟨t, 5, none⟩ v), Blk.set h2 5 v, h3⟩, h4.kept (grownBy_cell _ _ _ _) (by simp; omega), h5, h6⟩
theorem Tr.c5 {w : World} {t pm n : Nat} {P : Nat → List UInt8} {K : Nat} {wr : Bool} (h : Tr sv w t pm n P K wr) : w.cell? ⟨t, 5, none⟩ = some sv := by
  obtain ⟨⟨j, d, mb, l, room, L, c, h1, h2, h3⟩, h4, h5, h6⟩ := h
  exact tx5 h2
theorem Tr.frz {w : World} {t pm n : Nat} {P : Nat → List UInt8} {K : Nat} {wr : Bool} (h : Tr sv w t pm n P K wr) (k : Nat) : w.frozen? ⟨t, k, none⟩ = false := by
  obtain ⟨cs, hb⟩ := h.blk
  exact hb.frozen k
/-- What Save leaves. -/
structure SvW (w w' : World) (t pm n base : Nat) (P : Nat → List UInt8) (K : Nat) (wr : Bool) (sv sv' : Value) (S : List Sn) (q : Nat) : Prop where
  tr : Tr sv' w' t pm n P K wr
  ss : Sv w' base sv' (S ++ [⟨n, q, K, P⟩]) pm
  on : Only (t :: sv.ownBlock.toList) w w'
/-- The facts behind the append. -/
structure SvF (w5 : World) (B t pm n : Nat) (sv : Value) : Prop where
  cB : w5.cell? ⟨B, 0, none⟩ = some (.pointer (some ⟨t, 0, none⟩))
  c3 : w5.cell? ⟨t, 3, none⟩ = some (.int .i64 (n : Int))
  c4 : w5.cell? ⟨t, 4, none⟩ = some (.map (some pm))
  c5 : w5.cell? ⟨t, 5, none⟩ = some sv
  f5 : w5.frozen? ⟨t, 5, none⟩ = false
theorem svf_mk {w : World} {B t pm n : Nat} {P : Nat → List UInt8} {K : Nat} {wr : Bool} (h : Tr sv w t pm n P K wr) (hB : Blk w B #[.pointer (some ⟨t, 0, none⟩)] 24) : SvF w B t pm n sv := ⟨hB.cell 0, h.c3, h.c4, h.c5, h.frz 5⟩
theorem save_app {w w3 w5 : World} {B t pm n base q g cap : Nat} {P : Nat → List UInt8} {K : Nat} {wr : Bool} {S : List Sn} (h : Tr sv w t pm n P K wr) (hs : Sv w base sv S pm) (hB : Blk w B #[.pointer (some ⟨t, 0, none⟩)] 24) (hbase : base ≤ w.heap.size) (h3 : Below w.heap.size w w3) (hq : MpI w3 q K n P) (hqn : w.heap.size ≤ q)
    (ho : w5.ownsRow base 117 2 (.slice (some ⟨g, 0, none⟩) (S.length + 1) cap) (S.length + 1) (svL S ++ snC ⟨n, q, K, P⟩)) (ha : ApC base sv (.slice (some ⟨g, 0, none⟩) (S.length + 1) cap) (w3.alloc (.cells (snC ⟨n, q, K, P⟩).toArray 117)) w5) :
    SvF w5 B t pm n sv ∧ SvF (w5.setCell ⟨t, 5, none⟩ (.slice (some ⟨g, 0, none⟩) (S.length + 1) cap)) B t pm n (.slice (some ⟨g, 0, none⟩) (S.length + 1) cap) ∧ SvW w (w5.setCell ⟨t, 5, none⟩ (.slice (some ⟨g, 0, none⟩) (S.length + 1) cap)) t pm n base P K wr sv (.slice (some ⟨g, 0, none⟩) (S.length + 1) cap) S q := by
  have hb4 : Below w.heap.size w (w3.alloc (.cells (snC ⟨n, q, K, P⟩).toArray 117)) := below_trans h3 (below_alloc _ _)
  have ho4 : Only sv.ownBlock.toList w w5 := Only.after_below hb4 (Only.of_grown ha.1)
  have hX : ∀ b ∈ sv.ownBlock.toList, ∃ c, Blk w b c 117 := fun b hb => by
    have e : sv.ownBlock = some b := by simpa using hb
    exact (ownC_blk hs.row e).2
  have h5 := h.onlyC ho4 hX
  have hB5 : Blk w5 B #[.pointer (some ⟨t, 0, none⟩)] 24 := Blk.only hB ho4 (fun hb => by
    obtain ⟨c, hc⟩ := hX _ hb
    exact blk_ne hB hc (by decide) rfl)
  have h6 := h5.setS (.slice (some ⟨g, 0, none⟩) (S.length + 1) cap)
  obtain ⟨cs, hc⟩ := h5.blk
  have nBt : B ≠ t := blk_ne hB5 hc (by decide)
  have hB6 : Blk (w5.setCell ⟨t, 5, none⟩ (.slice (some ⟨g, 0, none⟩) (S.length + 1) cap)) B #[.pointer (some ⟨t, 0, none⟩)] 24 := Blk.setOther hB5 nBt _ _
  refine ⟨svf_mk h5 hB5, svf_mk h6 hB6, h6, ⟨?_, ?_⟩, ?_⟩
  · have hgt : g ≠ t := by
      obtain ⟨_, c, hg⟩ := ownC_blk ho (g := g) rfl
      exact blk_ne hg hc (by decide)
    have := own_only2 ho (Only.setCell w5 ⟨t, 5, none⟩ (.slice (some ⟨g, 0, none⟩) (S.length + 1) cap)) (fun k hk => by
      simp only [Value.ownBlock, Option.some.injEq] at hk
      subst hk
      simpa using hgt)
    simpa [svL] using this
  · have hmap : ∀ {p K n : Nat} {P : Nat → List UInt8}, MpI w5 p K n P → MpI (w5.setCell ⟨t, 5, none⟩ (.slice (some ⟨g, 0, none⟩) (S.length + 1) cap)) p K n P := fun {p K n P} hm => by
      obtain ⟨es, cl, he⟩ := hm.obj
      have := blk_map hc he
      exact hm.kept (grownBy_cell _ _ _ _) (by simp; omega)
    intro s hsm
    rcases List.mem_append.1 hsm with hsm | hsm
    · obtain ⟨e1, e2⟩ := hs.each s hsm
      refine ⟨hmap (e1.only ho4 (fun hb => ?_)), e2⟩
      obtain ⟨c, hc'⟩ := hX _ hb
      obtain ⟨es, cl, he⟩ := e1.obj
      exact blk_map hc' he rfl
    · obtain rfl := List.mem_singleton.1 hsm
      obtain ⟨es, cl, he⟩ := h.mp.obj
      have hpm : pm < w.heap.size := (Array.getElem?_eq_some_iff.1 he).1
      have hq4 : MpI (w3.alloc (.cells (snC ⟨n, q, K, P⟩).toArray 117)) q K n P := hq.later (below_alloc _ _)
      refine ⟨hmap (hq4.only (Only.of_grown ha.1) (fun hb => ?_)), Nat.le_trans hbase hqn, by show q ≠ pm; omega, h.len, h.few⟩
      obtain ⟨c, hc'⟩ := hX _ hb
      have := hc'.lt
      show False
      omega
  · refine Only.trans (ho4.mono (fun j hj => List.mem_cons_of_mem _ hj)) ((Only.setCell w5 ⟨t, 5, none⟩ (.slice (some ⟨g, 0, none⟩) (S.length + 1) cap)).mono (fun j hj => ?_))
    simp at hj; subst hj; simp
end Go.Proofs.YthgclfhfipfknaaGreat
