/- A transaction in memory: a map of pages; its count, a page of it. -/
import Derived.Test.YtenfjbcigkolaaaGreatTH
namespace Go.Proofs.YtenfjbcigkolaaaGreat
variable {sv : Value}
open Go.ChangeShapes Go.WideShapes Go.ChangeAt Go.RowKit Go.Maps
set_option linter.unusedVariables false

theorem step_storeP {ops : Array Oper} {o : Oper} {a : Act} {w : World} {K : Act → World → Prop} {Q : Exit → Act → World → Prop} {E : Prop} {g : Nat} {l l0 : List UInt8} (hl : l.length = 256) (hl0 : l0.length = 256) (hg : PAt w g l0) (x y : Operand)
    (hgd : o.guard = none) (ho : o.op = .store 32 x y) (hx : a.eval x = .pointer (some ⟨g, 0, none⟩)) (hy : a.eval y = .agg (bc l))
    (h : ∀ W', PAt W' g l → Only [g] w W' → K (a.put o.dst undef) W') : if Region.wanted o (yielded ops a.tmps) = true then Oper.wp Tryz.prog o a w K Q else E := by
  have hw : Region.wanted o (yielded ops a.tmps) = true := by simp [Region.wanted, hgd]
  rw [if_pos hw]
  exact wp_store_row 32 x y ho g (bc l) hx hy 32 (bc l0) hg (page_size hl) (by rw [bc_size, bc_size, hl, hl0]) (bc_one l) (h _ hg.row ⟨rfl, rfl, rfl, by simp [World.setRow], fun k _ hk => heap_setRow w g _ k (fun e => hk (by simp [e]))⟩)
/-- What a map of pages is for a page that is not there. -/
def zP : DataW Value := .held (.agg (bc zs))
/-- The map holds the pages 1 to n. -/
def MpI (w : World) (pm K n : Nat) (P : Nat → List UInt8) : Prop :=
  ∃ D : DataW Value, w.ownsMap Tryz.prog 3 heldR pm K D ∧ (∃ es, D = .map es) ∧ ∀ k : Nat, 1 ≤ k → k ≤ n → Maps.has D (.int .i64 (k : Int)) = true ∧ D.atKey (.int .i64 (k : Int)) zP = .held (.agg (bc (P k)))
/-- A transaction in memory by the journal on a disk without files: it has n pages. -/
structure Tr (sv : Value) (w : World) (t pm n : Nat) (P : Nat → List UInt8) (K : Nat) (wr : Bool) : Prop where
  gr : ∃ j d mb l room L c, Gr w j d mb l room L ∧ TxB w t j c (n : Int) (some pm) sv wr false ∧ mb ≠ pm
  mp : MpI w pm K n P
  len : ∀ k, (P k).length = 256
  few : n ≤ 4096
theorem MpI.kept {w w' : World} {pm K n : Nat} {P : Nat → List UInt8} (h : MpI w pm K n P) {row : Option Nat} (hg : w.grownBy w' row) (hn : some pm ≠ row) : MpI w' pm K n P := by
  obtain ⟨D, h1, h2, h3⟩ := h
  exact ⟨D, h1.kept hg hn, h2, h3⟩
theorem grown_of_below {A B : World} (h : Below A.heap.size A B) : A.grownBy B none := ⟨h.os, h.tape, h.output, h.size, fun k hk _ => h.block k hk⟩
theorem MpI.later {w w' : World} {pm K n : Nat} {P : Nat → List UInt8} (h : MpI w pm K n P) (hb : Below w.heap.size w w') : MpI w' pm K n P := h.kept (grown_of_below hb) (by simp)
theorem Tr.later {w w' : World} {t pm n : Nat} {P : Nat → List UInt8} {K : Nat} {wr : Bool} (h : Tr sv w t pm n P K wr) (hb : Below w.heap.size w w') : Tr sv w' t pm n P K wr := by
  obtain ⟨⟨j, d, mb, l, room, L, c, h1, h2, h3⟩, h4, h5, h6⟩ := h
  exact ⟨⟨j, d, mb, l, room, L, c, h1.later hb, Blk.later h2 hb, h3⟩, h4.later hb, h5, h6⟩
theorem Tr.goK {w : World} {t pm n : Nat} {P : Nat → List UInt8} {K : Nat} {wr : Bool} (h : Tr sv w t pm n P K wr) : GoK w (some ⟨t, 0, none⟩) 0 := by
  obtain ⟨⟨j, d, mb, l, room, L, c, h1, h2, h3⟩, h4, h5, h6⟩ := h
  exact .on h1 h2
theorem Tr.chK {w : World} {t pm n : Nat} {P : Nat → List UInt8} {K : Nat} (h : Tr sv w t pm n P K true) : ChK w (some ⟨t, 0, none⟩) 0 := by
  obtain ⟨⟨j, d, mb, l, room, L, c, h1, h2, h3⟩, h4, h5, h6⟩ := h
  exact .may h1 h2
theorem Tr.c3 {w : World} {t pm n : Nat} {P : Nat → List UInt8} {K : Nat} {wr : Bool} (h : Tr sv w t pm n P K wr) : w.cell? ⟨t, 3, none⟩ = some (.int .i64 (n : Int)) := by
  obtain ⟨⟨j, d, mb, l, room, L, c, h1, h2, h3⟩, h4, h5, h6⟩ := h
  exact tx3 h2
theorem Tr.c4 {w : World} {t pm n : Nat} {P : Nat → List UInt8} {K : Nat} {wr : Bool} (h : Tr sv w t pm n P K wr) : w.cell? ⟨t, 4, none⟩ = some (.map (some pm)) := by
  obtain ⟨⟨j, d, mb, l, room, L, c, h1, h2, h3⟩, h4, h5, h6⟩ := h
  exact tx4 h2

theorem num_wf {n : Nat} (h : n ≤ 100000) : (Lit.int .i64 (n : Int)).wf = true := by
  simp only [Lit.wf, Bool.and_eq_true, decide_eq_true_eq]
  have h1 : IntKind.i64.min = -9223372036854775808 := by decide
  have h2 : IntKind.i64.max = 9223372036854775807 := by decide
  rw [h1, h2]
  omega
theorem zeroP (w : World) : (zeroValue 32).run Tryz.prog w = .ok (.agg (bc zs)) w := zero_page.1 w
theorem look_page {w : World} {pm K n : Nat} {P : Nat → List UInt8} (h : MpI w pm K n P) {k : Nat} (h1 : 1 ≤ k) (h2 : k ≤ n) (h3 : k ≤ 4096) : (Instr.lookup 122 (.map (some pm)) (.int .i64 (k : Int)) true).run Tryz.prog w = .ok (.tuple #[.agg (bc (P k)), .bool true]) w := by
  obtain ⟨D, hD, hm, hp⟩ := h
  obtain ⟨v, ps, hr, hv⟩ := hD.look_ok (int_keyed Tryz.underlying3) Tryz.underlying122 (zeroP w) (zd := zP) (zp := []) rfl (keyOf_int_mk Tryz.underlying3 (num_wf (n := k) (by omega)))
  obtain ⟨p1, p2⟩ := hp k h1 h2
  rw [p2] at hv
  have : v = .agg (bc (P k)) := by
    unfold heldR at hv
    simp only [Option.some.injEq, Prod.mk.injEq, DataW.held.injEq] at hv
    exact hv.1
  rw [hr, this, p1]

/-- Count: of one that goes on. -/
theorem count1_e (w : World) (B t pm n : Nat) {P : Nat → List UInt8} {K : Nat} {wr : Bool} (h : Tr sv w t pm n P K wr) (hB : w.cell? ⟨B, 0, none⟩ = some (.pointer (some ⟨t, 0, none⟩))) : Calls Tryz.prog 85 #[.pointer (some ⟨B, 0, none⟩)] w fun e w' => e = .returned (.tuple #[.int .i64 (n : Int), .int .i64 0]) ∧ w = w' := by
  have c3 := h.c3
  clear h
  go_enter Tryz.func85, Tryz.ntmps85
  go_wp2
  go_ret2
  exact ⟨rfl, rfl⟩
theorem tellI_stop (w : World) (v : Option Addr) (E : Int) (h : GoK w v E) (he : E ≠ 0) (f2 : Value) : Calls Tryz.prog 67 #[.func (.func 65) #[.pointer v] #[], f2] w fun e w' => e = .returned (.tuple #[.int .i64 0, .int .i64 E]) ∧ Below w.heap.size w w' := by
  have HG := hide (goesOn_e w v E h)
  have he2 : (E == 0) = false := by simpa using he
  clear h
  go_enter Tryz.func67, Tryz.ntmps67
  go_wp2_with (first
    | (go_at_call 65; (with_reducible refine Calls.mono HG.out ?_); rintro e w4 ⟨rfl, hb⟩; have HB4 := hide hb; clear hb))
  go_ret2
  exact ⟨rfl, HB4.out⟩
theorem tell_count (w : World) (B t pm n : Nat) {P : Nat → List UInt8} {K : Nat} {wr : Bool} (h : Tr sv w t pm n P K wr) (hB : w.cell? ⟨B, 0, none⟩ = some (.pointer (some ⟨t, 0, none⟩))) :
    Calls Tryz.prog 67 #[.func (.func 65) #[.pointer (some ⟨t, 0, none⟩)] #[], .func (.func 85) #[] #[.pointer (some ⟨B, 0, none⟩)]] w fun e w' => e = .returned (.tuple #[.int .i64 (n : Int), .int .i64 0]) ∧ Below w.heap.size w w' := by
  have HG := hide (goesOn_e w _ 0 h.goK)
  have HM := hide (fun V (hb : Below w.heap.size w V) => count1_e V B t pm n (h.later hb) (cell_later hb hB))
  clear h hB
  go_enter Tryz.func67, Tryz.ntmps67
  go_wp2_with (first
    | (go_at_call 65; (with_reducible refine Calls.mono HG.out ?_); rintro e w4 ⟨rfl, hb⟩; have HB4 := hide hb; clear hb)
    | (go_at_call 85; (with_reducible refine Calls.mono (HM.out _ HB4.out) ?_); rintro e w5 ⟨rfl, rfl⟩))
  go_ret2
  exact ⟨rfl, HB4.out⟩
theorem count_e (w : World) (t pm n : Nat) {P : Nat → List UInt8} {K : Nat} {wr : Bool} (h : Tr sv w t pm n P K wr) : Calls Tryz.prog 21 #[.pointer (some ⟨t, 0, none⟩)] w fun e w' => e = .returned (.int .i64 (n : Int)) ∧ Below w.heap.size w w' := by
  have HB := hide (below_alloc w (.cells #[.pointer (some ⟨t, 0, none⟩)] 26))
  have HD := hide (tell_count _ w.heap.size t pm n (h.later HB.out) ((Blk.new w #[.pointer (some ⟨t, 0, none⟩)] 26).cell 0))
  clear h
  go_enter Tryz.func21, Tryz.ntmps21
  go_wp2_with (first
    | (go_at_call 67; (with_reducible refine Calls.mono HD.out ?_); rintro e w4 ⟨rfl, hb⟩; have HB4 := hide (below_trans HB.out hb); clear hb))
  go_ret
  exact ⟨rfl, HB4.out⟩
theorem count_stop (w : World) (v : Option Addr) (E : Int) (h : GoK w v E) (he : E ≠ 0) : Calls Tryz.prog 21 #[.pointer v] w fun e w' => e = .returned (.int .i64 0) ∧ Below w.heap.size w w' := by
  have HB := hide (below_alloc w (.cells #[.pointer v] 26))
  have HD := hide (tellI_stop _ v E (h.later HB.out) he (.func (.func 85) #[] #[.pointer (some ⟨w.heap.size, 0, none⟩)]))
  clear h
  go_enter Tryz.func21, Tryz.ntmps21
  go_wp2_with (first
    | (go_at_call 67; (with_reducible refine Calls.mono HD.out ?_); rintro e w4 ⟨rfl, hb⟩; have HB4 := hide (below_trans HB.out hb); clear hb))
  go_ret
  exact ⟨rfl, HB4.out⟩
end Go.Proofs.YtenfjbcigkolaaaGreat
