/- A transaction writes from now on; it is rolled back. -/
/- Runs of cells laid one behind the other: where they have room. -/
import Derived.Test.YthgclfhfipfknaaGreatTO
import Derived.Test.YthgclfhfipfknaaGreatGF
namespace Go.Proofs.YthgclfhfipfknaaGreat
open Go.ChangeShapes Go.WideShapes Go.ChangeAt Go.RowKit Go.Maps
set_option linter.unusedVariables false

theorem Gr.lock {w V : World} {j d mb l : Nat} {room : Int} {L L' : List Int} (h : Gr w j d mb l room L) (ht : TB V l L') (hl : L'.length = 8) (ho : Only [l] w V) : Gr V j d mb l room L' := by
  have nl : j ≠ l := blk_ne h.jr h.lk (by decide)
  have nd : d ≠ l := blk_ne h.de.blk h.lk (by decide)
  have nm : l ≠ mb := blk_map h.lk h.de.mp
  exact ⟨h.jr.only ho (by simpa using nl), h.de.only ho (by simpa using nd) (by simp; omega), ht, hl⟩
theorem jwrite_e (w : World) (j d mb l : Nat) (room : Int) (L : List Int) (h : Gr w j d mb l room L) (c : Int) (hc : tkE L c 2 = 0) : Calls Tryz.prog 384 #[.pointer (some ⟨j, 0, none⟩), .int .i64 c] w fun e w' => e = .returned (.int .i64 0) ∧ Gr w' j d mb l room (tkH L c 2) ∧ Only [l] w w' := by
  have HT := hide (take_some w l L h.l8 h.lk c 2)
  rw [hc] at HT
  have c2 := h.j2
  have HG := hide (fun V (ht : TB V l (tkH L c 2)) (ho : Only [l] w V) => h.lock ht (by rw [tkH_length]; exact h.l8) ho)
  clear h hc
  go_enter Tryz.func384, Tryz.ntmps384
  go_wp2_with (first
    | (go_at_call 368; (with_reducible refine Calls.mono HT.out ?_); rintro e w5 ⟨rfl, ht, ho⟩; have HG5 := hide (HG.out _ ht ho); have HO5 := hide ho; clear ht ho))
  go_ret
  exact ⟨rfl, HG5.out, HO5.out⟩
theorem jend_e (w : World) (j d mb l : Nat) (room : Int) (L : List Int) (h : Gr w j d mb l room L) (c : Int) : Calls Tryz.prog 381 #[.pointer (some ⟨j, 0, none⟩), .int .i64 c] w fun e w' => e = .returned (.tuple #[]) ∧ Gr w' j d mb l room (drH L c 0) ∧ Only [l] w w' := by
  have HT := hide (drop_some w l L h.l8 h.lk c 0)
  have c2 := h.j2
  have HG := hide (fun V (ht : TB V l (drH L c 0)) (ho : Only [l] w V) => h.lock ht (by rw [drH_length]; exact h.l8) ho)
  clear h
  go_enter Tryz.func381, Tryz.ntmps381
  go_wp2_with (first
    | (go_at_call 365; (with_reducible refine Calls.mono HT.out ?_); rintro e w5 ⟨rfl, ht, ho⟩; have HG5 := hide (HG.out _ ht ho); have HO5 := hide ho; clear ht ho))
  go_end0
  exact ⟨rfl, HG5.out, HO5.out⟩
theorem Gr.tx {w V : World} {j d mb l t : Nat} {room : Int} {L : List Int} {cs : Array Value} (h : Gr w j d mb l room L) (ht : Blk w t cs 122) (ho : Only [t] w V) : Gr V j d mb l room L := by
  have a := blk_ne h.jr ht (by decide)
  have b := blk_ne h.de.blk ht (by decide)
  have c := blk_map ht h.de.mp
  have d := blk_ne h.lk ht (by decide)
  exact h.only ho (by simpa using a) (by simpa using b) (by simp; omega) (by simpa using d)
theorem tx_lock {w V : World} {t l : Nat} {cs : Array Value} {L : List Int} (ht : Blk w t cs 122) (hl : TB w l L) (ho : Only [l] w V) : Blk V t cs 122 := by
  have d := blk_ne ht hl (by decide)
  exact ht.only ho (by simpa using d)
set_option maxRecDepth 20000 in
set_option maxHeartbeats 2000000 in
theorem write1_e (w : World) (B t j d mb l : Nat) (room : Int) (L : List Int) {c n : Int} {pm : Option Nat} {sv : Value} (h : Gr w j d mb l room L) (ht : TxB w t j c n pm sv false false) (hc : tkE L c 2 = 0) (hB : Blk w B #[.pointer (some ⟨t, 0, none⟩)] 24) :
    Calls Tryz.prog 94 #[.pointer (some ⟨B, 0, none⟩)] w fun e w' => e = .returned (.int .i64 0) ∧ Gr w' j d mb l room (tkH L c 2) ∧ TxB w' t j c n pm sv true false ∧ Only [l, t] w w' := by
  have HJ := hide (jwrite_e w.drew j d mb l room L h.drew c hc)
  have HO0 : Hid (Only [l] w w.drew) := Only.drew _ _
  have HC : Hid (∀ V, Only [l] w V → V.cell? ⟨B, 0, none⟩ = some (.pointer (some ⟨t, 0, none⟩)) ∧ V.cell? ⟨t, 0, none⟩ = some (.iface 139 (.pointer (some ⟨j, 0, none⟩))) ∧ V.cell? ⟨t, 1, none⟩ = some (.int .i64 c)) := fun V ho =>
    ⟨(hB.only ho (by have := blk_ne hB h.lk (by decide); simpa using this)).cell 0, tx0 (tx_lock ht h.lk ho), tx1 (tx_lock ht h.lk ho)⟩
  have HX : Hid (∀ V, Only [l] w V → TxB V t j c n pm sv false false) := fun V ho => tx_lock ht h.lk ho
  have c6 := tx6 ht
  have cB : w.cell? ⟨B, 0, none⟩ = some (.pointer (some ⟨t, 0, none⟩)) := hB.cell 0
  clear h ht hc hB
  go_enter Tryz.func94, Tryz.ntmps94
  go_upto_region 3 with fail
  clear c6 cB
  go_region_held3 (fun V => V.cell? ⟨B, 0, none⟩ = some (.pointer (some ⟨t, 0, none⟩)) ∧ V.cell? ⟨t, 0, none⟩ = some (.iface 139 (.pointer (some ⟨j, 0, none⟩))) ∧ V.cell? ⟨t, 1, none⟩ = some (.int .i64 c)) (first | exact HC.out _ HO0.out | exact HC.out _ HO4.out) (first
    | (go_at_call 384; (with_reducible refine Calls.mono HJ.out ?_); rintro e w4 ⟨rfl, hg, ho⟩; have HG4 := hide hg; have HO4 := hide (HO0.out.trans ho); have HX4 := hide (HX.out _ HO4.out); clear hg ho))
  all_goals
    have c6 := tx6 HX4.out
    have f6 := HX4.out.frozen 6
    have cB := (HC.out _ HO4.out).1
    go_wp2
    go_ret
    exact ⟨rfl, HG4.out.tx HX4.out (Only.setCell w4 ⟨t, 6, none⟩ (.bool true)), HX4.out.set 6 (.bool true), (HO4.out.mono (by simp)).trans ((Only.setCell w4 ⟨t, 6, none⟩ _).mono (by simp))⟩
theorem do_write (w : World) (B t j d mb l : Nat) (room : Int) (L : List Int) {c n : Int} {pm : Option Nat} {sv : Value} (h : Gr w j d mb l room L) (ht : TxB w t j c n pm sv false false) (hc : tkE L c 2 = 0) (hB : Blk w B #[.pointer (some ⟨t, 0, none⟩)] 24) :
    Calls Tryz.prog 56 #[.func (.func 54) #[.pointer (some ⟨t, 0, none⟩)] #[], .func (.func 94) #[] #[.pointer (some ⟨B, 0, none⟩)]] w fun e w' => e = .returned (.int .i64 0) ∧ Gr w' j d mb l room (tkH L c 2) ∧ TxB w' t j c n pm sv true false ∧ Only [l, t] w w' := by
  have HG := hide (goesOn_e w _ 0 (.on h ht))
  have HM := hide (fun V (hb : Below w.heap.size w V) => write1_e V B t j d mb l room L (h.later hb) (Blk.later ht hb) hc (hB.later hb))
  clear h ht hc hB
  go_enter Tryz.func56, Tryz.ntmps56
  go_wp2_with (first
    | (go_at_call 54; (with_reducible refine Calls.mono HG.out ?_); rintro e w4 ⟨rfl, hb⟩; have HB4 := hide hb; clear hb)
    | (go_at_call 94; (with_reducible refine Calls.mono (HM.out _ HB4.out) ?_); rintro e w5 ⟨rfl, h1, h2, h3⟩; have HR := hide (And.intro h1 (And.intro h2 (Only.after_below HB4.out h3))); clear h1 h2 h3))
  go_ret
  exact ⟨rfl, HR.out⟩
theorem write_e (w : World) (t j d mb l : Nat) (room : Int) (L : List Int) {c n : Int} {pm : Option Nat} {sv : Value} (h : Gr w j d mb l room L) (ht : TxB w t j c n pm sv false false) (hc : tkE L c 2 = 0) :
    Calls Tryz.prog 34 #[.pointer (some ⟨t, 0, none⟩)] w fun e w' => e = .returned (.int .i64 0) ∧ Gr w' j d mb l room (tkH L c 2) ∧ TxB w' t j c n pm sv true false ∧ Only [l, t] w w' := by
  have HB0 := hide (below_alloc w (.cells #[.pointer (some ⟨t, 0, none⟩)] 24))
  have HD := hide (do_write _ w.heap.size t j d mb l room L (h.later HB0.out) (Blk.later ht HB0.out) hc (Blk.new w #[.pointer (some ⟨t, 0, none⟩)] 24))
  clear h ht hc
  go_enter Tryz.func34, Tryz.ntmps34
  go_wp2_with (first
    | (go_at_call 56; (with_reducible refine Calls.mono HD.out ?_); rintro e w5 ⟨rfl, h1, h2, h3⟩; have HR := hide (And.intro h1 (And.intro h2 (Only.after_below HB0.out h3))); clear h1 h2 h3))
  go_ret
  exact ⟨rfl, HR.out⟩
set_option maxRecDepth 20000 in
set_option maxHeartbeats 2000000 in
theorem leave_e (w : World) (t j d mb l : Nat) (room : Int) (L : List Int) {c n : Int} {pm : Option Nat} {sv : Value} {wr : Bool} (h : Gr w j d mb l room L) (ht : TxB w t j c n pm sv wr false) :
    Calls Tryz.prog 70 #[.pointer (some ⟨t, 0, none⟩)] w fun e w' => e = .returned (.tuple #[]) ∧ Gr w' j d mb l room (drH L c 0) ∧ TxB w' t j c 0 none (.slice none 0 0) wr true ∧ Only [l, t] w w' := by
  have HJ := hide (jend_e w.drew j d mb l room L h.drew c)
  have HO0 : Hid (Only [l] w w.drew) := Only.drew _ _
  have HC : Hid (∀ V, Only [l] w V → V.cell? ⟨t, 0, none⟩ = some (.iface 139 (.pointer (some ⟨j, 0, none⟩))) ∧ V.cell? ⟨t, 1, none⟩ = some (.int .i64 c)) := fun V ho =>
    ⟨tx0 (tx_lock ht h.lk ho), tx1 (tx_lock ht h.lk ho)⟩
  have HX : Hid (∀ V, Only [l] w V → TxB V t j c n pm sv wr false) := fun V ho => tx_lock ht h.lk ho
  clear h ht
  go_enter Tryz.func70, Tryz.ntmps70
  go_upto_region 0 with fail
  go_region_held3 (fun V => V.cell? ⟨t, 0, none⟩ = some (.iface 139 (.pointer (some ⟨j, 0, none⟩))) ∧ V.cell? ⟨t, 1, none⟩ = some (.int .i64 c)) (first | exact HC.out _ HO0.out | exact HC.out _ HO4.out) (first
    | (go_at_call 381; (with_reducible refine Calls.mono HJ.out ?_); rintro e w4 ⟨rfl, hg, ho⟩; have HG4 := hide hg; have HO4 := hide (HO0.out.trans ho); have HX4 := hide (HX.out _ HO4.out); clear hg ho))
  all_goals
    have c3 := tx3 HX4.out
    have c4 := tx4 HX4.out
    have c5 := tx5 HX4.out
    have c7 := tx7 HX4.out
    have f7 := HX4.out.frozen 7
    have f3 := HX4.out.frozen 3
    have f4 := HX4.out.frozen 4
    have f5 := HX4.out.frozen 5
    go_wp2
    go_end0
    have hO : Only [t] w4 ((((w4.setCell ⟨t, 7, none⟩ (.bool true)).setCell ⟨t, 3, none⟩ (.int .i64 0)).setCell ⟨t, 4, none⟩ (.map none)).setCell ⟨t, 5, none⟩ (.slice none 0 0)) := (((Only.setCell w4 ⟨t, 7, none⟩ _).trans (Only.setCell _ ⟨t, 3, none⟩ _)).trans (Only.setCell _ ⟨t, 4, none⟩ _)).trans (Only.setCell _ ⟨t, 5, none⟩ _)
    exact ⟨rfl, HG4.out.tx HX4.out hO, (((HX4.out.set 7 (.bool true)).set 3 (.int .i64 0)).set 4 (.map none)).set 5 (.slice none 0 0), (HO4.out.mono (by simp)).trans (hO.mono (by simp))⟩
theorem rollback1_e (w : World) (B t j d mb l : Nat) (room : Int) (L : List Int) {c n : Int} {pm : Option Nat} {sv : Value} {wr : Bool} (h : Gr w j d mb l room L) (ht : TxB w t j c n pm sv wr false) (hB : w.cell? ⟨B, 0, none⟩ = some (.pointer (some ⟨t, 0, none⟩))) :
    Calls Tryz.prog 69 #[.pointer (some ⟨B, 0, none⟩)] w fun e w' => e = .returned (.int .i64 0) ∧ Gr w' j d mb l room (drH L c 0) ∧ TxB w' t j c 0 none (.slice none 0 0) wr true ∧ Only [l, t] w w' := by
  have HL := hide (leave_e w t j d mb l room L h ht)
  clear h ht
  go_enter Tryz.func69, Tryz.ntmps69
  go_wp2_with (first
    | (go_at_call 70; (with_reducible refine Calls.mono HL.out ?_); rintro e w5 ⟨rfl, h1, h2, h3⟩; have HR := hide (And.intro h1 (And.intro h2 h3)); clear h1 h2 h3))
  go_ret
  exact ⟨rfl, HR.out⟩
theorem do_rollback (w : World) (B t j d mb l : Nat) (room : Int) (L : List Int) {c n : Int} {pm : Option Nat} {sv : Value} {wr : Bool} (h : Gr w j d mb l room L) (ht : TxB w t j c n pm sv wr false) (hB : Blk w B #[.pointer (some ⟨t, 0, none⟩)] 24) :
    Calls Tryz.prog 56 #[.func (.func 54) #[.pointer (some ⟨t, 0, none⟩)] #[], .func (.func 69) #[] #[.pointer (some ⟨B, 0, none⟩)]] w fun e w' => e = .returned (.int .i64 0) ∧ Gr w' j d mb l room (drH L c 0) ∧ TxB w' t j c 0 none (.slice none 0 0) wr true ∧ Only [l, t] w w' := by
  have HG := hide (goesOn_e w _ 0 (.on h ht))
  have HM := hide (fun V (hb : Below w.heap.size w V) => rollback1_e V B t j d mb l room L (h.later hb) (Blk.later ht hb) ((hB.later hb).cell 0))
  clear h ht hB
  go_enter Tryz.func56, Tryz.ntmps56
  go_wp2_with (first
    | (go_at_call 54; (with_reducible refine Calls.mono HG.out ?_); rintro e w4 ⟨rfl, hb⟩; have HB4 := hide hb; clear hb)
    | (go_at_call 69; (with_reducible refine Calls.mono (HM.out _ HB4.out) ?_); rintro e w5 ⟨rfl, h1, h2, h3⟩; have HR := hide (And.intro h1 (And.intro h2 (Only.after_below HB4.out h3))); clear h1 h2 h3))
  go_ret
  exact ⟨rfl, HR.out⟩
theorem rollback_e (w : World) (t j d mb l : Nat) (room : Int) (L : List Int) {c n : Int} {pm : Option Nat} {sv : Value} {wr : Bool} (h : Gr w j d mb l room L) (ht : TxB w t j c n pm sv wr false) :
    Calls Tryz.prog 26 #[.pointer (some ⟨t, 0, none⟩)] w fun e w' => e = .returned (.int .i64 0) ∧ Gr w' j d mb l room (drH L c 0) ∧ TxB w' t j c 0 none (.slice none 0 0) wr true ∧ Only [l, t] w w' := by
  have HB0 := hide (below_alloc w (.cells #[.pointer (some ⟨t, 0, none⟩)] 24))
  have HD := hide (do_rollback _ w.heap.size t j d mb l room L (h.later HB0.out) (Blk.later ht HB0.out) (Blk.new w #[.pointer (some ⟨t, 0, none⟩)] 24))
  clear h ht
  go_enter Tryz.func26, Tryz.ntmps26
  go_wp2_with (first
    | (go_at_call 56; (with_reducible refine Calls.mono HD.out ?_); rintro e w5 ⟨rfl, h1, h2, h3⟩; have HR := hide (And.intro h1 (And.intro h2 (Only.after_below HB0.out h3))); clear h1 h2 h3))
  go_ret
  exact ⟨rfl, HR.out⟩
end Go.Proofs.YthgclfhfipfknaaGreat

namespace Go.Proofs.YthgclfhfipfknaaGreat
open Go.ChangeShapes Go.WideShapes Go.ChangeAt Go.RowKit
set_option linter.unusedVariables false

set_option maxHeartbeats 2000000 in
set_option maxRecDepth 10000 in
theorem joined_fits (k L : Nat) (hk : k < 256) (hL : L < 4294967296) (b o m cap : Nat) (A B : Nat → ByteArray) (hs : (cat A m).length + (cat B m).length ≤ 250) (hm : m ≤ 1000000000) (w : World) (h : RunsAt w b o m A B) :
    Calls Tryz.prog 245 #[.int .u8 k, .int .u32 (L : Int), .slice (some ⟨b, o, none⟩) m cap] w fun e w' => e = .returned (.tuple #[.agg (bc (setL (lay k (cat A m).length A B (cat A m).length m m) L)), .int .i64 0]) ∧ Below w.heap.size w w' := by
  have HR := hide (h.later (new_below w (.cells (bc zs) 59) rfl))
  have HZ := hide (PAt.new w zs)
  have HB := hide (new_below w (.cells (bc zs) 59) rfl)
  have HS := hide hs
  have hz := zero_page.1
  have hbu := built_page
  clear h hs
  go_enter Tryz.func245, Tryz.ntmps245
  go_wp2
  go_loopw [19, 8, 9] (fun iv cv sv wr => ∃ j : Nat, j ≤ m ∧ iv = .int .i64 (j : Int) ∧ cv = .int .i64 ((cat A j).length : Int) ∧ sv = .int .i64 ((6 + ((cat A j).length + (cat B j).length) : Nat) : Int) ∧ Below (w.alloc (.cells (bc zs) 59)).heap.size (w.alloc (.cells (bc zs) 59)) wr) (fun iv _ _ _ => m - (intOf iv).toNat)
  case atStart => exact ⟨0, Nat.zero_le _, rfl, rfl, rfl, Below.refl _ _⟩
  case round =>
    obtain ⟨j, hj, rfl, rfl, rfl, hbel⟩ := hrel
    have HBj := hide hbel
    clear hbel
    by_cases hlt : j < m
    · have l1 : (j : Int) < (m : Int) := by omega
      have l0 : (0 : Int) ≤ (j : Int) := by omega
      have hw1 : IntKind.i64.wrap ((j : Int) + 1) = (j : Int) + 1 := by rw [IntKind.wrap_i64]; omega
      obtain ⟨c0, c1⟩ := (HR.out.later HBj.out) j hlt
      have hs := HS.out
      have la := cat_len A j
      have lb := cat_len B j
      have ma := cat_mono A (show j + 1 ≤ m by omega)
      have mb := cat_mono B (show j + 1 ≤ m by omega)
      have e1 : IntKind.i64.wrap (((cat A j).length : Int) + ((A j).size : Int)) = ((cat A j).length : Int) + ((A j).size : Int) := by rw [IntKind.wrap_i64]; omega
      have e2 : IntKind.i64.wrap (((A j).size : Int) + ((B j).size : Int)) = ((A j).size : Int) + ((B j).size : Int) := by rw [IntKind.wrap_i64]; omega
      have e3 : IntKind.i64.wrap (6 + (((cat A j).length : Int) + ((cat B j).length : Int)) + (((A j).size : Int) + ((B j).size : Int))) = 6 + (((cat A j).length : Int) + ((cat B j).length : Int)) + (((A j).size : Int) + ((B j).size : Int)) := by rw [IntKind.wrap_i64]; omega
      have HN := hide (below_trans HBj.out (new_below wr (.cells #[.string (A j), .string (B j)] 339) rfl))
      have HLA := hide la
      have HLB := hide lb
      clear la lb ma mb hs
      go_wp2
      refine ⟨⟨j + 1, hlt, rfl, ?_, ?_, HN.out⟩, ?_⟩
      · rw [HLA.out]; congr 1
      · rw [HLA.out, HLB.out]; exact congrArg (Value.int IntKind.i64) (by omega)
      · simp only [intOf]; omega
    · have l1 : ¬ (j : Int) < (m : Int) := by omega
      obtain rfl : j = m := by omega
      obtain ⟨V1, hV1⟩ : ∃ V1, V1 = wr := ⟨_, rfl⟩
      subst hV1
      have hs := HS.out
      have l2 : ¬ (256 : Int) < 6 + (((cat A j).length : Int) + ((cat B j).length : Int)) := by omega
      have HB2 := hide (below_trans HB.out HBj.out)
      have HZ2 := hide (HZ.out.later HBj.out)
      have HR2 := hide (HR.out.later HBj.out)
      have z0 := bc_get (l := zs) (k := 0) (by rw [zs_length]; omega)
      have z1 := bc_get (l := zs) (k := 1) (by rw [zs_length]; omega)
      have hN : (cat A j).length ≤ 250 := by omega
      go_wp2
      rw [lay0 k (cat A j).length A B hk hN]
      have hs1 : ∀ V, (Instr.sliceAt 59 (.pointer (some ⟨V1.heap.size, 0, none⟩)) (some (.int .i64 6)) (some (.int .i64 (6 + ((cat A j).length : Int)))) none).run Tryz.prog V = .ok (.slice (some ⟨V1.heap.size, 6, none⟩) (cat A j).length 250) V := fun V => cut_page V V1.heap.size 6 (cat A j).length rfl rfl (by omega) (by omega)
      obtain ⟨x0, hs2, hx0, hx0'⟩ := cut_end' V1.heap.size (x := 6 + ((cat A j).length : Int)) (6 + (cat A j).length) (by omega) (by omega)
      have e4 : IntKind.i64.wrap (6 + ((cat A j).length : Int)) = 6 + ((cat A j).length : Int) := by rw [IntKind.wrap_i64]; omega
      have HX0 := hide hx0
      have HX0' := hide hx0'
      clear hx0 hx0' z0 z1 hbu
      go_region
      all_goals (try go_wp2)
      have hp0 : PAt (V1.alloc (.cells (bc (lay k (cat A j).length A B (cat A j).length 0 0)) 59)).drew V1.heap.size (lay k (cat A j).length A B (cat A j).length 0 0) := PAt.new V1 _
      have hb0 : Below V1.heap.size V1 (V1.alloc (.cells (bc (lay k (cat A j).length A B (cat A j).length 0 0)) 59)).drew := (new_below V1 _ rfl).drew
      generalize (V1.alloc (.cells (bc (lay k (cat A j).length A B (cat A j).length 0 0)) 59)).drew = W2 at hp0 hb0
      have HP0 := hide hp0
      have HB0 := hide hb0
      have HLL := hide hL
      clear hp0 hb0 hs1 hs2 e4 hL
      go_loopw [54, 13, 14] (fun iv lv bv wr => ∃ i xa xb : Nat, i ≤ j ∧ iv = .int .i64 (i : Int) ∧ lv = .slice (some ⟨V1.heap.size, xa, none⟩) ((cat A j).length - (cat A i).length) (250 - (cat A i).length) ∧ ((cat A i).length < 250 → xa = 6 + (cat A i).length) ∧ xa ≤ 256 ∧
        bv = .slice (some ⟨V1.heap.size, xb, none⟩) (250 - (cat A j).length - (cat B i).length) (250 - (cat A j).length - (cat B i).length) ∧ ((cat A j).length + (cat B i).length < 250 → xb = 6 + (cat A j).length + (cat B i).length) ∧ xb ≤ 256 ∧ PAt wr V1.heap.size (lay k (cat A j).length A B (cat A j).length i i) ∧ Below V1.heap.size V1 wr) (fun iv _ _ _ => j - (intOf iv).toNat)
      case atStart =>
        refine ⟨0, 6, x0, Nat.zero_le _, rfl, rfl, fun _ => rfl, by omega, ?_, fun h => ?_, ?_, HP0.out, HB0.out⟩
        · simp only [cat, List.length_nil]; congr 1
          · omega
          · omega
        · rw [HX0.out (by simp only [cat, List.length_nil] at h; omega)]; simp [cat]
        · by_cases h : 6 + (cat A j).length < 256
          · rw [HX0.out h]; omega
          · rw [HX0'.out (by omega)]; omega
      case round =>
        obtain ⟨i, xa, xb, hi, rfl, rfl, hxa, hxa', rfl, hxb, hxb', hpq, hbq⟩ := hrel
        have HPQ := hide hpq
        have HBQ := hide hbq
        clear hpq hbq
        by_cases hlt2 : i < j
        · have l3 : (i : Int) < (j : Int) := by omega
          have l0 : (0 : Int) ≤ (i : Int) := by omega
          have hw1 : IntKind.i64.wrap ((i : Int) + 1) = (i : Int) + 1 := by rw [IntKind.wrap_i64]; omega
          obtain ⟨c0, c1⟩ := (HR2.out.later HBQ.out) i hlt2
          have la := cat_len A i
          have lb := cat_len B i
          have ma := cat_mono A (show i + 1 ≤ j by omega)
          have mb := cat_mono B (show i + 1 ≤ j by omega)
          have HLn := hide (lay_length k (cat A j).length A B (cat A j).length i i (by omega) (by omega))
          have HLn2 := hide (lay_length k (cat A j).length A B (cat A j).length (i + 1) i (by omega) (by omega))
          obtain ⟨ya, hs3, hya, hya'⟩ := cut_tail V1.heap.size xa ((cat A j).length - (cat A i).length) (250 - (cat A i).length) (A i).size (by omega) (by omega) (y := ((A i).size : Int)) rfl
          obtain ⟨yb, hs4, hyb, hyb'⟩ := cut_tail V1.heap.size xb (250 - (cat A j).length - (cat B i).length) (250 - (cat A j).length - (cat B i).length) (B i).size (by omega) (by omega) (y := ((B i).size : Int)) rfl
          have HPN : Hid (PAt (wr.alloc (.cells #[.string (A i), .string (B i)] 339)) V1.heap.size (lay k (cat A j).length A B (cat A j).length i i)) := HPQ.out.later (new_below _ _ rfl)
          have HBN : Hid (Below V1.heap.size V1 (wr.alloc (.cells #[.string (A i), .string (B i)] 339))) := below_trans HBQ.out (new_below _ _ rfl)
          have HG : Hid (wr.heap.size ≠ V1.heap.size) := by
            have := (Array.getElem?_eq_some_iff.1 HPQ.out).1
            exact hide (by omega)
          have hA1 : xa + (A i).size ≤ 256 := by
            by_cases h0 : (A i).size = 0
            · omega
            · rw [hxa (by omega)]; omega
          have hA2 := put_A k (cat A j).length A B (cat A j).length i i xa (by
            by_cases h0 : (A i).size = 0
            · exact .inl h0
            · exact .inr (hxa (by omega))) (by omega)
          have hB1 : xb + (B i).size ≤ 256 := by
            by_cases h0 : (B i).size = 0
            · omega
            · rw [hxb (by omega)]; omega
          have hB2 := put_B k (cat A j).length A B (cat A j).length (i + 1) i xb (by omega) (by
            by_cases h0 : (B i).size = 0
            · exact .inl h0
            · exact .inr (hxb (by omega))) (by omega)
          have HF1 := hide hA1
          have HF2 := hide hA2
          have HF3 := hide hB1
          have HF4 := hide hB2
          have HD1 := hide (show (A i).size ≤ (cat A j).length - (cat A i).length by omega)
          have HD2 := hide (show (B i).size ≤ 250 - (cat A j).length - (cat B i).length by omega)
          have HX1 := hide hxa
          have HX2 := hide hxb
          have HX3 := hide hya
          have HX4 := hide hya'
          have HX5 := hide hyb
          have HX6 := hide hyb'
          have HX7 := hide la
          have HX8 := hide lb
          have HX9 := hide ma
          have HX10 := hide mb
          have HX11 := hide hxa'
          have HX12 := hide hxb'
          clear hxa hxb hya hya' hyb hyb' la lb ma mb hA1 hA2 hB1 hB2 hs hxa' hxb'
          go_wp2_with (first
            | (refine wp_copyP HLn.out HPN.out HF1.out HD1.out _ _ (by rfl) (by rfl) (by rfl) (by rfl) ?_; intro W3 hp hb hq; rw [HF2.out] at hp; have HP3 := hide hp; have HB3 := hide (hb _ _ HBN.out (Nat.le_refl _)); have d1 : W3.cell? ⟨wr.heap.size, 1, none⟩ = some (.string (B i)) := (by rw [cell_of_row W3 wr.heap.size 1 #[.string (A i), .string (B i)] 339 (0, 0) (by rw [hq _ HG.out]; exact heap_alloc_new _ _)]; rfl); clear hp hb hq)
            | (refine wp_copyP HLn2.out HP3.out HF3.out HD2.out _ _ (by rfl) (by rfl) (by rfl) (by rfl) ?_; intro W4 hp hb hq; rw [HF4.out] at hp; have HP4 := hide hp; have HB4 := hide (hb _ _ HB3.out (Nat.le_refl _)); clear hp hb hq))
          have la := HX7.out
          have lb := HX8.out
          have ma := HX9.out
          have mb := HX10.out
          have hs := HS.out
          refine ⟨⟨i + 1, ya, yb, hlt2, rfl, ?_, fun h => ?_, ?_, ?_, fun h => ?_, ?_, HP4.out, HB4.out⟩, ?_⟩
          · congr 1 <;> omega
          · rw [HX3.out (by omega), HX1.out (by omega)]; omega
          · by_cases h : (A i).size < 250 - (cat A i).length
            · rw [HX3.out h]; exact HF1.out
            · rw [HX4.out (by omega)]; exact HX11.out
          · congr 1 <;> omega
          · rw [HX5.out (by omega), HX2.out (by omega)]; omega
          · by_cases h : (B i).size < 250 - (cat A j).length - (cat B i).length
            · rw [HX5.out h]; exact HF3.out
            · rw [HX6.out (by omega)]; exact HX12.out
          · simp only [intOf]; omega
        · have l3 : ¬ (i : Int) < (j : Int) := by omega
          obtain rfl : i = j := by omega
          have HLn := hide (lay_length k (cat A i).length A B (cat A i).length i i (Nat.le_refl _) (by omega))
          have HLs := hide ((setL_length (lay k (cat A i).length A B (cat A i).length i i) L).trans HLn.out)
          have HZ3 := hide (HZ2.out.later HBQ.out)
          have HB3 := hide (below_trans HB2.out HBQ.out)
          clear hxa hxb hxa' hxb' hs
          go_wp2_with (first
            | (refine wp_loadP HLn.out HPQ.out _ (by rfl) (by rfl) (by rfl) ?_)
            | (go_at_call 294; with_reducible refine Calls.mono (linked_walk _ HLn.out L HLL.out _) ?_; rintro e W5 ⟨rfl, hb⟩; have HZ5 := hide (HZ3.out.later hb); have HB5 := hide (below_trans HB3.out hb); clear hb)
            | (refine wp_storeP HLs.out zs_length HZ5.out _ _ (by rfl) (by rfl) (by rfl) (by rfl) ?_; intro W6 hp hb hq; have HP6 := hide hp; have HB6 := hide (hb _ _ HB5.out (Nat.le_refl _)); clear hp hb hq)
            | (exact ret_page2 Tryz.results245 rfl rfl HLs.out HP6.out ⟨rfl, HB6.out⟩))
end Go.Proofs.YthgclfhfipfknaaGreat
