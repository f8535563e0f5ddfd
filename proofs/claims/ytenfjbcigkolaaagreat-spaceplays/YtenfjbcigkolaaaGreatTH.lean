/- A transaction in memory: whether it goes on, whether it may be changed. -/
import Derived.Test.YtenfjbcigkolaaaGreatTG
namespace Go.Proofs.YtenfjbcigkolaaaGreat
open Go.ChangeShapes Go.WideShapes Go.ChangeAt Go.RowKit Go.Maps
set_option linter.unusedVariables false

theorem tover_end (w : World) (t j : Nat) {c n : Int} {pm : Option Nat} {sv : Value} {wr : Bool} (ht : TxB w t j c n pm sv wr true) : Calls Tryz.prog 23 #[.pointer (some ⟨t, 0, none⟩)] w fun e w' => e = .returned (.bool true) ∧ w = w' := by
  have HT := hide (tthere_e w t j (tx0 ht))
  have c7 := tx7 ht
  clear ht
  go_enter Tryz.func23, Tryz.ntmps23
  go_wp2_with (first
    | (go_at_call 86; (with_reducible refine Calls.mono HT.out ?_); rintro e w4 ⟨rfl, rfl⟩))
  go_ret
  exact ⟨rfl, rfl⟩
/-- What stands in the way of a transaction: nothing, that there is none, that it is over. -/
inductive GoK (w : World) : Option Addr → Int → Prop where
  | none : GoK w .none 1
  | ended {t j : Nat} {c n : Int} {pm : Option Nat} {sv : Value} {wr : Bool} (ht : TxB w t j c n pm sv wr true) : GoK w (some ⟨t, 0, Option.none⟩) 7
  | on {t j d mb l : Nat} {room : Int} {L : List Int} {c n : Int} {pm : Option Nat} {sv : Value} {wr : Bool} (h : Gr w j d mb l room L) (ht : TxB w t j c n pm sv wr false) : GoK w (some ⟨t, 0, Option.none⟩) 0
theorem GoK.later {w w' : World} {v : Option Addr} {e : Int} (h : GoK w v e) (hb : Below w.heap.size w w') : GoK w' v e := by
  cases h with
  | none => exact .none
  | ended ht => exact .ended (Blk.later ht hb)
  | on h ht => exact .on (h.later hb) (Blk.later ht hb)
theorem goesOn_e (w : World) (v : Option Addr) (E : Int) (h : GoK w v E) : Calls Tryz.prog 65 #[.pointer v] w fun e w' => e = .returned (.int .i64 E) ∧ Below w.heap.size w w' := by
  cases h with
  | none =>
    have HT := hide (tthere_nil w)
    have HB := hide (below_refl w)
    go_enter Tryz.func65, Tryz.ntmps65
    go_wp2_with (first
      | (go_at_call 86; (with_reducible refine Calls.mono HT.out ?_); rintro e w4 ⟨rfl, rfl⟩))
    go_ret
    exact ⟨rfl, HB.out⟩
  | @ended t j c n pm sv wr ht =>
    have HT := hide (tthere_e w t j (tx0 ht))
    have HO := hide (tover_end w t j ht)
    have HB := hide (below_refl w)
    clear ht
    go_enter Tryz.func65, Tryz.ntmps65
    go_wp2_with (first
      | (go_at_call 86; (with_reducible refine Calls.mono HT.out ?_); rintro e w4 ⟨rfl, rfl⟩)
      | (go_at_call 23; (with_reducible refine Calls.mono HO.out ?_); rintro e w4 ⟨rfl, rfl⟩))
    go_ret
    exact ⟨rfl, HB.out⟩
  | @on t j d mb l room L c n pm sv wr h ht =>
    have HT := hide (tthere_e w t j (tx0 ht))
    have HO := hide (tover_e w t j d mb l room L h ht)
    clear ht h
    go_enter Tryz.func65, Tryz.ntmps65
    go_wp2_with (first
      | (go_at_call 86; (with_reducible refine Calls.mono HT.out ?_); rintro e w4 ⟨rfl, rfl⟩)
      | (go_at_call 23; (with_reducible refine Calls.mono HO.out ?_); rintro e w4 ⟨rfl, hb⟩; have HB := hide hb; clear hb))
    go_ret
    exact ⟨rfl, HB.out⟩
/-- What stands in the way of a change. -/
inductive ChK (w : World) : Option Addr → Int → Prop where
  | stop {v : Option Addr} {e : Int} (h : GoK w v e) (he : e ≠ 0) : ChK w v e
  | reads {t j d mb l : Nat} {room : Int} {L : List Int} {c n : Int} {pm : Option Nat} {sv : Value} (h : Gr w j d mb l room L) (ht : TxB w t j c n pm sv false false) : ChK w (some ⟨t, 0, Option.none⟩) 191
  | may {t j d mb l : Nat} {room : Int} {L : List Int} {c n : Int} {pm : Option Nat} {sv : Value} (h : Gr w j d mb l room L) (ht : TxB w t j c n pm sv true false) : ChK w (some ⟨t, 0, Option.none⟩) 0
theorem ChK.later {w w' : World} {v : Option Addr} {e : Int} (h : ChK w v e) (hb : Below w.heap.size w w') : ChK w' v e := by
  cases h with
  | stop h he => exact .stop (h.later hb) he
  | reads h ht => exact .reads (h.later hb) (Blk.later ht hb)
  | may h ht => exact .may (h.later hb) (Blk.later ht hb)
theorem GoK.cases {w : World} {v : Option Addr} {e : Int} (h : GoK w v e) : e = 0 ∨ e = 1 ∨ e = 7 := by cases h <;> simp
theorem do_stopG (w : World) (v : Option Addr) (E : Int) (h : GoK w v E) (he : E ≠ 0) (f2 : Value) : Calls Tryz.prog 70 #[.func (.func 65) #[.pointer v] #[], f2] w fun e w' => e = .returned (.int .i64 E) ∧ Below w.heap.size w w' := by
  have HG := hide (goesOn_e w v E h)
  have he2 : (E == 0) = false := by simpa using he
  clear h
  go_enter Tryz.func70, Tryz.ntmps70
  go_wp2_with (first
    | (go_at_call 65; (with_reducible refine Calls.mono HG.out ?_); rintro e w4 ⟨rfl, hb⟩; have HB4 := hide hb; clear hb))
  go_ret
  exact ⟨rfl, HB4.out⟩
def chE (wr : Bool) : Int := if wr = true then 0 else 191
theorem mayChange1_e (w : World) (B t j : Nat) {c n : Int} {pm : Option Nat} {sv : Value} {wr : Bool} (hB : w.cell? ⟨B, 0, none⟩ = some (.pointer (some ⟨t, 0, none⟩))) (ht : TxB w t j c n pm sv wr false) : Calls Tryz.prog 126 #[.pointer (some ⟨B, 0, none⟩)] w fun e w' => e = .returned (.int .i64 (chE wr)) ∧ w = w' := by
  have c6 := tx6 ht
  clear ht
  cases wr
  all_goals
    go_enter Tryz.func126, Tryz.ntmps126
    go_wp2
    go_ret
    exact ⟨rfl, rfl⟩
theorem do_mc (w : World) (B t j d mb l : Nat) (room : Int) (L : List Int) {c n : Int} {pm : Option Nat} {sv : Value} {wr : Bool} (h : Gr w j d mb l room L) (ht : TxB w t j c n pm sv wr false) (hB : w.cell? ⟨B, 0, none⟩ = some (.pointer (some ⟨t, 0, none⟩))) :
    Calls Tryz.prog 70 #[.func (.func 65) #[.pointer (some ⟨t, 0, none⟩)] #[], .func (.func 126) #[] #[.pointer (some ⟨B, 0, none⟩)]] w fun e w' => e = .returned (.int .i64 (chE wr)) ∧ Below w.heap.size w w' := by
  have HG := hide (goesOn_e w _ 0 (.on h ht))
  have HM := hide (fun V (hb : Below w.heap.size w V) => mayChange1_e V B t j (cell_later hb hB) (Blk.later ht hb))
  clear h ht hB
  go_enter Tryz.func70, Tryz.ntmps70
  go_wp2_with (first
    | (go_at_call 65; (with_reducible refine Calls.mono HG.out ?_); rintro e w4 ⟨rfl, hb⟩; have HB4 := hide hb; clear hb)
    | (go_at_call 126; (with_reducible refine Calls.mono (HM.out _ HB4.out) ?_); rintro e w5 ⟨rfl, rfl⟩))
  go_ret
  exact ⟨rfl, HB4.out⟩
theorem mayChange_e (w : World) (v : Option Addr) (E : Int) (h : ChK w v E) : Calls Tryz.prog 72 #[.pointer v] w fun e w' => e = .returned (.int .i64 E) ∧ Below w.heap.size w w' := by
  have HB := hide (below_alloc w (.cells #[.pointer v] 26))
  have HN := hide (Blk.new w #[.pointer v] 26)
  have HD : Hid (Calls Tryz.prog 70 #[.func (.func 65) #[.pointer v] #[], .func (.func 126) #[] #[.pointer (some ⟨w.heap.size, 0, none⟩)]] (w.alloc (.cells #[.pointer v] 26)) fun e w' => e = .returned (.int .i64 E) ∧ Below (w.alloc (.cells #[.pointer v] 26)).heap.size (w.alloc (.cells #[.pointer v] 26)) w') := by
    cases h with
    | stop h he => exact do_stopG _ _ _ (h.later HB.out) he _
    | @reads t j d mb l room L c n pm sv h ht => exact do_mc _ w.heap.size t j d mb l room L (h.later HB.out) (Blk.later ht HB.out) (HN.out.cell 0)
    | @may t j d mb l room L c n pm sv h ht => exact do_mc _ w.heap.size t j d mb l room L (h.later HB.out) (Blk.later ht HB.out) (HN.out.cell 0)
  clear h
  go_enter Tryz.func72, Tryz.ntmps72
  go_wp2_with (first
    | (go_at_call 70; (with_reducible refine Calls.mono HD.out ?_); rintro e w4 ⟨rfl, hb⟩; have HB4 := hide (below_trans HB.out hb); clear hb))
  go_ret
  exact ⟨rfl, HB4.out⟩
theorem do_stopM (w : World) (v : Option Addr) (E : Int) (h : ChK w v E) (he : E ≠ 0) (f2 : Value) : Calls Tryz.prog 70 #[.func (.func 72) #[.pointer v] #[], f2] w fun e w' => e = .returned (.int .i64 E) ∧ Below w.heap.size w w' := by
  have HG := hide (mayChange_e w v E h)
  have he2 : (E == 0) = false := by simpa using he
  clear h
  go_enter Tryz.func70, Tryz.ntmps70
  go_wp2_with (first
    | (go_at_call 72; (with_reducible refine Calls.mono HG.out ?_); rintro e w4 ⟨rfl, hb⟩; have HB4 := hide hb; clear hb))
  go_ret
  exact ⟨rfl, HB4.out⟩
end Go.Proofs.YtenfjbcigkolaaaGreat
