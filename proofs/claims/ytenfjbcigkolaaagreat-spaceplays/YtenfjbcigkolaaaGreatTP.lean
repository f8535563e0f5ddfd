/- A transaction writes from now on; it is rolled back. -/
import Derived.Test.YtenfjbcigkolaaaGreatTO
namespace Go.Proofs.YtenfjbcigkolaaaGreat
open Go.ChangeShapes Go.WideShapes Go.ChangeAt Go.RowKit Go.Maps
set_option linter.unusedVariables false

theorem Gr.lock {w V : World} {j d mb l : Nat} {room : Int} {L L' : List Int} (h : Gr w j d mb l room L) (ht : TB V l L') (hl : L'.length = 8) (ho : Only [l] w V) : Gr V j d mb l room L' := by
  have nl : j ≠ l := blk_ne h.jr h.lk (by decide)
  have nd : d ≠ l := blk_ne h.de.blk h.lk (by decide)
  have nm : l ≠ mb := blk_map h.lk h.de.mp
  exact ⟨h.jr.only ho (by simpa using nl), h.de.only ho (by simpa using nd) (by simp; omega), ht, hl⟩
theorem jwrite_e (w : World) (j d mb l : Nat) (room : Int) (L : List Int) (h : Gr w j d mb l room L) (c : Int) (hc : tkE L c 2 = 0) : Calls Tryz.prog 321 #[.pointer (some ⟨j, 0, none⟩), .int .i64 c] w fun e w' => e = .returned (.int .i64 0) ∧ Gr w' j d mb l room (tkH L c 2) ∧ Only [l] w w' := by
  have HT := hide (take_some w l L h.l8 h.lk c 2)
  rw [hc] at HT
  have c2 := h.j2
  have HG := hide (fun V (ht : TB V l (tkH L c 2)) (ho : Only [l] w V) => h.lock ht (by rw [tkH_length]; exact h.l8) ho)
  clear h hc
  go_enter Tryz.func321, Tryz.ntmps321
  go_wp2_with (first
    | (go_at_call 300; (with_reducible refine Calls.mono HT.out ?_); rintro e w5 ⟨rfl, ht, ho⟩; have HG5 := hide (HG.out _ ht ho); have HO5 := hide ho; clear ht ho))
  go_ret
  exact ⟨rfl, HG5.out, HO5.out⟩
theorem jend_e (w : World) (j d mb l : Nat) (room : Int) (L : List Int) (h : Gr w j d mb l room L) (c : Int) : Calls Tryz.prog 318 #[.pointer (some ⟨j, 0, none⟩), .int .i64 c] w fun e w' => e = .returned (.tuple #[]) ∧ Gr w' j d mb l room (drH L c 0) ∧ Only [l] w w' := by
  have HT := hide (drop_some w l L h.l8 h.lk c 0)
  have c2 := h.j2
  have HG := hide (fun V (ht : TB V l (drH L c 0)) (ho : Only [l] w V) => h.lock ht (by rw [drH_length]; exact h.l8) ho)
  clear h
  go_enter Tryz.func318, Tryz.ntmps318
  go_wp2_with (first
    | (go_at_call 296; (with_reducible refine Calls.mono HT.out ?_); rintro e w5 ⟨rfl, ht, ho⟩; have HG5 := hide (HG.out _ ht ho); have HO5 := hide ho; clear ht ho))
  go_end0
  exact ⟨rfl, HG5.out, HO5.out⟩
theorem Gr.tx {w V : World} {j d mb l t : Nat} {room : Int} {L : List Int} {cs : Array Value} (h : Gr w j d mb l room L) (ht : Blk w t cs 127) (ho : Only [t] w V) : Gr V j d mb l room L := by
  have a := blk_ne h.jr ht (by decide)
  have b := blk_ne h.de.blk ht (by decide)
  have c := blk_map ht h.de.mp
  have d := blk_ne h.lk ht (by decide)
  exact h.only ho (by simpa using a) (by simpa using b) (by simp; omega) (by simpa using d)
theorem tx_lock {w V : World} {t l : Nat} {cs : Array Value} {L : List Int} (ht : Blk w t cs 127) (hl : TB w l L) (ho : Only [l] w V) : Blk V t cs 127 := by
  have d := blk_ne ht hl (by decide)
  exact ht.only ho (by simpa using d)
set_option maxRecDepth 20000 in
set_option maxHeartbeats 2000000 in
theorem write1_e (w : World) (B t j d mb l : Nat) (room : Int) (L : List Int) {c n : Int} {pm : Option Nat} {sv : Value} (h : Gr w j d mb l room L) (ht : TxB w t j c n pm sv false false) (hc : tkE L c 2 = 0) (hB : Blk w B #[.pointer (some ⟨t, 0, none⟩)] 26) :
    Calls Tryz.prog 71 #[.pointer (some ⟨B, 0, none⟩)] w fun e w' => e = .returned (.int .i64 0) ∧ Gr w' j d mb l room (tkH L c 2) ∧ TxB w' t j c n pm sv true false ∧ Only [l, t] w w' := by
  have HJ := hide (jwrite_e w.drew j d mb l room L h.drew c hc)
  have HO0 : Hid (Only [l] w w.drew) := Only.drew _ _
  have HC : Hid (∀ V, Only [l] w V → V.cell? ⟨B, 0, none⟩ = some (.pointer (some ⟨t, 0, none⟩)) ∧ V.cell? ⟨t, 0, none⟩ = some (.iface 117 (.pointer (some ⟨j, 0, none⟩))) ∧ V.cell? ⟨t, 1, none⟩ = some (.int .i64 c)) := fun V ho =>
    ⟨(hB.only ho (by have := blk_ne hB h.lk (by decide); simpa using this)).cell 0, tx0 (tx_lock ht h.lk ho), tx1 (tx_lock ht h.lk ho)⟩
  have HX : Hid (∀ V, Only [l] w V → TxB V t j c n pm sv false false) := fun V ho => tx_lock ht h.lk ho
  have c6 := tx6 ht
  have cB : w.cell? ⟨B, 0, none⟩ = some (.pointer (some ⟨t, 0, none⟩)) := hB.cell 0
  clear h ht hc hB
  go_enter Tryz.func71, Tryz.ntmps71
  go_upto_region 3 with fail
  clear c6 cB
  go_region_held3 (fun V => V.cell? ⟨B, 0, none⟩ = some (.pointer (some ⟨t, 0, none⟩)) ∧ V.cell? ⟨t, 0, none⟩ = some (.iface 117 (.pointer (some ⟨j, 0, none⟩))) ∧ V.cell? ⟨t, 1, none⟩ = some (.int .i64 c)) (first | exact HC.out _ HO0.out | exact HC.out _ HO4.out) (first
    | (go_at_call 321; (with_reducible refine Calls.mono HJ.out ?_); rintro e w4 ⟨rfl, hg, ho⟩; have HG4 := hide hg; have HO4 := hide (HO0.out.trans ho); have HX4 := hide (HX.out _ HO4.out); clear hg ho))
  all_goals
    have c6 := tx6 HX4.out
    have f6 := HX4.out.frozen 6
    have cB := (HC.out _ HO4.out).1
    go_wp2
    go_ret
    exact ⟨rfl, HG4.out.tx HX4.out (Only.setCell w4 ⟨t, 6, none⟩ (.bool true)), HX4.out.set 6 (.bool true), (HO4.out.mono (by simp)).trans ((Only.setCell w4 ⟨t, 6, none⟩ _).mono (by simp))⟩
theorem do_write (w : World) (B t j d mb l : Nat) (room : Int) (L : List Int) {c n : Int} {pm : Option Nat} {sv : Value} (h : Gr w j d mb l room L) (ht : TxB w t j c n pm sv false false) (hc : tkE L c 2 = 0) (hB : Blk w B #[.pointer (some ⟨t, 0, none⟩)] 26) :
    Calls Tryz.prog 70 #[.func (.func 65) #[.pointer (some ⟨t, 0, none⟩)] #[], .func (.func 71) #[] #[.pointer (some ⟨B, 0, none⟩)]] w fun e w' => e = .returned (.int .i64 0) ∧ Gr w' j d mb l room (tkH L c 2) ∧ TxB w' t j c n pm sv true false ∧ Only [l, t] w w' := by
  have HG := hide (goesOn_e w _ 0 (.on h ht))
  have HM := hide (fun V (hb : Below w.heap.size w V) => write1_e V B t j d mb l room L (h.later hb) (Blk.later ht hb) hc (hB.later hb))
  clear h ht hc hB
  go_enter Tryz.func70, Tryz.ntmps70
  go_wp2_with (first
    | (go_at_call 65; (with_reducible refine Calls.mono HG.out ?_); rintro e w4 ⟨rfl, hb⟩; have HB4 := hide hb; clear hb)
    | (go_at_call 71; (with_reducible refine Calls.mono (HM.out _ HB4.out) ?_); rintro e w5 ⟨rfl, h1, h2, h3⟩; have HR := hide (And.intro h1 (And.intro h2 (Only.after_below HB4.out h3))); clear h1 h2 h3))
  go_ret
  exact ⟨rfl, HR.out⟩
theorem write_e (w : World) (t j d mb l : Nat) (room : Int) (L : List Int) {c n : Int} {pm : Option Nat} {sv : Value} (h : Gr w j d mb l room L) (ht : TxB w t j c n pm sv false false) (hc : tkE L c 2 = 0) :
    Calls Tryz.prog 14 #[.pointer (some ⟨t, 0, none⟩)] w fun e w' => e = .returned (.int .i64 0) ∧ Gr w' j d mb l room (tkH L c 2) ∧ TxB w' t j c n pm sv true false ∧ Only [l, t] w w' := by
  have HB0 := hide (below_alloc w (.cells #[.pointer (some ⟨t, 0, none⟩)] 26))
  have HD := hide (do_write _ w.heap.size t j d mb l room L (h.later HB0.out) (Blk.later ht HB0.out) hc (Blk.new w #[.pointer (some ⟨t, 0, none⟩)] 26))
  clear h ht hc
  go_enter Tryz.func14, Tryz.ntmps14
  go_wp2_with (first
    | (go_at_call 70; (with_reducible refine Calls.mono HD.out ?_); rintro e w5 ⟨rfl, h1, h2, h3⟩; have HR := hide (And.intro h1 (And.intro h2 (Only.after_below HB0.out h3))); clear h1 h2 h3))
  go_ret
  exact ⟨rfl, HR.out⟩
set_option maxRecDepth 20000 in
set_option maxHeartbeats 2000000 in
theorem leave_e (w : World) (t j d mb l : Nat) (room : Int) (L : List Int) {c n : Int} {pm : Option Nat} {sv : Value} {wr : Bool} (h : Gr w j d mb l room L) (ht : TxB w t j c n pm sv wr false) :
    Calls Tryz.prog 83 #[.pointer (some ⟨t, 0, none⟩)] w fun e w' => e = .returned (.tuple #[]) ∧ Gr w' j d mb l room (drH L c 0) ∧ TxB w' t j c 0 none (.slice none 0 0) wr true ∧ Only [l, t] w w' := by
  have HJ := hide (jend_e w.drew j d mb l room L h.drew c)
  have HO0 : Hid (Only [l] w w.drew) := Only.drew _ _
  have HC : Hid (∀ V, Only [l] w V → V.cell? ⟨t, 0, none⟩ = some (.iface 117 (.pointer (some ⟨j, 0, none⟩))) ∧ V.cell? ⟨t, 1, none⟩ = some (.int .i64 c)) := fun V ho =>
    ⟨tx0 (tx_lock ht h.lk ho), tx1 (tx_lock ht h.lk ho)⟩
  have HX : Hid (∀ V, Only [l] w V → TxB V t j c n pm sv wr false) := fun V ho => tx_lock ht h.lk ho
  clear h ht
  go_enter Tryz.func83, Tryz.ntmps83
  go_upto_region 0 with fail
  go_region_held3 (fun V => V.cell? ⟨t, 0, none⟩ = some (.iface 117 (.pointer (some ⟨j, 0, none⟩))) ∧ V.cell? ⟨t, 1, none⟩ = some (.int .i64 c)) (first | exact HC.out _ HO0.out | exact HC.out _ HO4.out) (first
    | (go_at_call 318; (with_reducible refine Calls.mono HJ.out ?_); rintro e w4 ⟨rfl, hg, ho⟩; have HG4 := hide hg; have HO4 := hide (HO0.out.trans ho); have HX4 := hide (HX.out _ HO4.out); clear hg ho))
  all_goals
    have c3 := tx3 HX4.out
    have c4 := tx4 HX4.out
    have c5 := tx5 HX4.out
    have c7 := tx7 HX4.out
    have f7 := HX4.out.frozen 7
    have f3 := HX4.out.frozen 3
    have f4 := HX4.out.frozen 4
    have f5 := HX4.out.frozen 5
    go_wp2
    go_end0
    have hO : Only [t] w4 ((((w4.setCell ⟨t, 7, none⟩ (.bool true)).setCell ⟨t, 3, none⟩ (.int .i64 0)).setCell ⟨t, 4, none⟩ (.map none)).setCell ⟨t, 5, none⟩ (.slice none 0 0)) := (((Only.setCell w4 ⟨t, 7, none⟩ _).trans (Only.setCell _ ⟨t, 3, none⟩ _)).trans (Only.setCell _ ⟨t, 4, none⟩ _)).trans (Only.setCell _ ⟨t, 5, none⟩ _)
    exact ⟨rfl, HG4.out.tx HX4.out hO, (((HX4.out.set 7 (.bool true)).set 3 (.int .i64 0)).set 4 (.map none)).set 5 (.slice none 0 0), (HO4.out.mono (by simp)).trans (hO.mono (by simp))⟩
theorem rollback1_e (w : World) (B t j d mb l : Nat) (room : Int) (L : List Int) {c n : Int} {pm : Option Nat} {sv : Value} {wr : Bool} (h : Gr w j d mb l room L) (ht : TxB w t j c n pm sv wr false) (hB : w.cell? ⟨B, 0, none⟩ = some (.pointer (some ⟨t, 0, none⟩))) :
    Calls Tryz.prog 84 #[.pointer (some ⟨B, 0, none⟩)] w fun e w' => e = .returned (.int .i64 0) ∧ Gr w' j d mb l room (drH L c 0) ∧ TxB w' t j c 0 none (.slice none 0 0) wr true ∧ Only [l, t] w w' := by
  have HL := hide (leave_e w t j d mb l room L h ht)
  clear h ht
  go_enter Tryz.func84, Tryz.ntmps84
  go_wp2_with (first
    | (go_at_call 83; (with_reducible refine Calls.mono HL.out ?_); rintro e w5 ⟨rfl, h1, h2, h3⟩; have HR := hide (And.intro h1 (And.intro h2 h3)); clear h1 h2 h3))
  go_ret
  exact ⟨rfl, HR.out⟩
theorem do_rollback (w : World) (B t j d mb l : Nat) (room : Int) (L : List Int) {c n : Int} {pm : Option Nat} {sv : Value} {wr : Bool} (h : Gr w j d mb l room L) (ht : TxB w t j c n pm sv wr false) (hB : Blk w B #[.pointer (some ⟨t, 0, none⟩)] 26) :
    Calls Tryz.prog 70 #[.func (.func 65) #[.pointer (some ⟨t, 0, none⟩)] #[], .func (.func 84) #[] #[.pointer (some ⟨B, 0, none⟩)]] w fun e w' => e = .returned (.int .i64 0) ∧ Gr w' j d mb l room (drH L c 0) ∧ TxB w' t j c 0 none (.slice none 0 0) wr true ∧ Only [l, t] w w' := by
  have HG := hide (goesOn_e w _ 0 (.on h ht))
  have HM := hide (fun V (hb : Below w.heap.size w V) => rollback1_e V B t j d mb l room L (h.later hb) (Blk.later ht hb) ((hB.later hb).cell 0))
  clear h ht hB
  go_enter Tryz.func70, Tryz.ntmps70
  go_wp2_with (first
    | (go_at_call 65; (with_reducible refine Calls.mono HG.out ?_); rintro e w4 ⟨rfl, hb⟩; have HB4 := hide hb; clear hb)
    | (go_at_call 84; (with_reducible refine Calls.mono (HM.out _ HB4.out) ?_); rintro e w5 ⟨rfl, h1, h2, h3⟩; have HR := hide (And.intro h1 (And.intro h2 (Only.after_below HB4.out h3))); clear h1 h2 h3))
  go_ret
  exact ⟨rfl, HR.out⟩
theorem rollback_e (w : World) (t j d mb l : Nat) (room : Int) (L : List Int) {c n : Int} {pm : Option Nat} {sv : Value} {wr : Bool} (h : Gr w j d mb l room L) (ht : TxB w t j c n pm sv wr false) :
    Calls Tryz.prog 20 #[.pointer (some ⟨t, 0, none⟩)] w fun e w' => e = .returned (.int .i64 0) ∧ Gr w' j d mb l room (drH L c 0) ∧ TxB w' t j c 0 none (.slice none 0 0) wr true ∧ Only [l, t] w w' := by
  have HB0 := hide (below_alloc w (.cells #[.pointer (some ⟨t, 0, none⟩)] 26))
  have HD := hide (do_rollback _ w.heap.size t j d mb l room L (h.later HB0.out) (Blk.later ht HB0.out) (Blk.new w #[.pointer (some ⟨t, 0, none⟩)] 26))
  clear h ht
  go_enter Tryz.func20, Tryz.ntmps20
  go_wp2_with (first
    | (go_at_call 70; (with_reducible refine Calls.mono HD.out ?_); rintro e w5 ⟨rfl, h1, h2, h3⟩; have HR := hide (And.intro h1 (And.intro h2 (Only.after_below HB0.out h3))); clear h1 h2 h3))
  go_ret
  exact ⟨rfl, HR.out⟩
end Go.Proofs.YtenfjbcigkolaaaGreat
