/- A lock dropped. -/
/- A store by the journal on a disk without files. -/
/- A transaction in memory: whether it goes on, whether it may be changed. -/
/- A transaction in memory: whether it goes on, whether it may be changed. -/
import Derived.Test.YthgclfhfipfknaaGreatLKD
import Derived.Test.YthgclfhfipfknaaGreatTE
namespace Go.Proofs.YthgclfhfipfknaaGreat
open Go.ChangeShapes Go.WideShapes Go.ChangeAt Go.RowKit
set_option linter.unusedVariables false

/-- What is held behind Drop. -/
def drH (h : List Int) (c l : Int) : List Int := if askE c l = 0 then h.set c.toNat (min (gt h c.toNat) l) else h
theorem drH_length (h : List Int) (c l : Int) : (drH h c l).length = h.length := by unfold drH; split <;> simp
theorem drop_nil (w : World) (c l : Int) : Calls Tryz.prog 365 #[.pointer none, .int .i64 c, .int .i64 l] w fun e w' => e = .returned (.int .i64 1) ∧ w = w' := by
  go_enter Tryz.func365, Tryz.ntmps365
  go_wp2_with (go_at_call 370; refine Calls.mono (asked_nil _ _ _) ?_; rintro e w4 ⟨rfl, rfl⟩)
  go_ret
  exact ⟨rfl, rfl⟩
theorem TB.set {w : World} {g : Nat} {h : List Int} (hb : TB w g h) (k : Nat) (x : Int) : TB (w.setCell ⟨g, 1 + k, none⟩ (.int .i64 x)) g (h.set k x) := by
  have := Blk.set hb (1 + k) (.int .i64 x)
  rw [Nat.add_comm 1 k, tcl_set] at this
  rw [Nat.add_comm 1 k]
  exact this
set_option maxRecDepth 20000 in
set_option maxHeartbeats 1000000 in
theorem drop_some (w : World) (g : Nat) (L : List Int) (h8 : L.length = 8) (hb : TB w g L) (c l : Int) : Calls Tryz.prog 365 #[.pointer (some ⟨g, 0, none⟩), .int .i64 c, .int .i64 l] w fun e w' => e = .returned (.int .i64 (askE c l)) ∧ TB w' g (drH L c l) ∧ Only [g] w w' := by
  have HA := hide (asked_some w g L hb c l)
  have HB := hide hb
  by_cases ha : askE c l = 0
  · have hcl : okC c = true ∧ okL l = true := by
      unfold askE at ha
      cases h1 : okC c <;> cases h2 : okL l <;> simp [h1, h2] at ha ⊢
    obtain ⟨k, rfl, hk⟩ : ∃ k : Nat, c = (k : Int) ∧ k < 8 := by
      have := of_decide_eq_true hcl.1
      exact ⟨c.toNat, by omega, by omega⟩
    have ck := hb.held' (k := k) (by omega)
    have fk := hb.frozen (1 + k)
    have l0 : (0 : Int) ≤ (k : Int) := by omega
    have l1 : (k : Int) < 8 := by omega
    have H8 := hide h8
    rw [ha] at HA
    have HH := hide (show drH L (k : Int) l = L.set k (min (gt L k) l) by unfold drH; rw [if_pos ha]; rfl)
    rw [ha]
    clear hb h8 hcl ha
    go_enter Tryz.func365, Tryz.ntmps365
    go_wp2_with (go_at_call 370; with_reducible refine Calls.mono HA.out ?_; rintro e w4 ⟨rfl, rfl⟩)
    go_region
    all_goals (try go_wp2)
    all_goals go_ret
    all_goals refine ⟨rfl, ?_, (Only.setCell w ⟨g, 1 + k, none⟩ _).trans (Only.drew _ _)⟩
    · rw [HH.out, show min (gt L k) l = l by omega]
      exact TB.set HB.out k l
    · rw [HH.out, show min (gt L k) l = gt L k by omega]
      exact TB.set HB.out k (gt L k)
  · have HH : Hid (drH L c l = L) := by show drH L c l = L; unfold drH; rw [if_neg ha]
    have ha2 : askE c l = 2 := by unfold askE at ha ⊢; split <;> simp_all
    rw [ha2] at HA ⊢
    clear ha ha2 hb
    go_enter Tryz.func365, Tryz.ntmps365
    go_wp2_with (go_at_call 370; with_reducible refine Calls.mono HA.out ?_; rintro e w4 ⟨rfl, rfl⟩)
    go_ret
    exact ⟨rfl, by rw [HH.out]; exact HB.out, Only.refl _ _⟩
end Go.Proofs.YthgclfhfipfknaaGreat

namespace Go.Proofs.YthgclfhfipfknaaGreat
open Go.ChangeShapes Go.WideShapes Go.ChangeAt Go.RowKit Go.Maps
set_option linter.unusedVariables false

/-- A store's face by the journal. -/
def fcV (j : Nat) : Value := .iface 139 (.pointer (some ⟨j, 0, none⟩))
/-- What a transaction by the journal stands on. -/
structure Gr (w : World) (j d mb l : Nat) (room : Int) (L : List Int) : Prop where
  jr : Blk w j #[.pointer (some ⟨d, 0, none⟩), .int .i64 0, .pointer (some ⟨l, 0, none⟩)] 141
  de : DE w d mb room
  lk : TB w l L
  l8 : L.length = 8
theorem Gr.later {w w' : World} {j d mb l : Nat} {room : Int} {L : List Int} (h : Gr w j d mb l room L) (hb : Below w.heap.size w w') : Gr w' j d mb l room L := ⟨h.jr.later hb, h.de.later hb, Blk.later h.lk hb, h.l8⟩
theorem Gr.drew {w : World} {j d mb l : Nat} {room : Int} {L : List Int} (h : Gr w j d mb l room L) : Gr w.drew j d mb l room L := ⟨h.jr, h.de.drew, h.lk, h.l8⟩
theorem Gr.j0 {w : World} {j d mb l : Nat} {room : Int} {L : List Int} (h : Gr w j d mb l room L) : w.cell? ⟨j, 0, none⟩ = some (.pointer (some ⟨d, 0, none⟩)) := h.jr.cell 0
theorem Gr.j1 {w : World} {j d mb l : Nat} {room : Int} {L : List Int} (h : Gr w j d mb l room L) : w.cell? ⟨j, 1, none⟩ = some (.int .i64 0) := h.jr.cell 1
theorem Gr.j2 {w : World} {j d mb l : Nat} {room : Int} {L : List Int} (h : Gr w j d mb l room L) : w.cell? ⟨j, 2, none⟩ = some (.pointer (some ⟨l, 0, none⟩)) := h.jr.cell 2

set_option maxRecDepth 20000 in
set_option maxHeartbeats 2000000 in
theorem over_e (w : World) (j d mb l : Nat) (room : Int) (L : List Int) (h : Gr w j d mb l room L) : Calls Tryz.prog 361 #[.pointer (some ⟨j, 0, none⟩)] w fun e w' => e = .returned (.bool false) ∧ Below w.heap.size w w' := by
  have HG := hide h.drew
  have HD := hide (down_e w.drew d mb room h.de.drew)
  have HT := hide (starts_e w.drew d mb room h.de.drew)
  have HB := hide (below_drew w)
  clear h
  go_enter Tryz.func361, Tryz.ntmps361
  go_upto_region 1 with fail
  go_region_held3 (fun V => V.cell? ⟨j, 0, none⟩ = some (.pointer (some ⟨d, 0, none⟩)) ∧ V.cell? ⟨j, 1, none⟩ = some (.int .i64 0)) (exact ⟨HG.out.j0, HG.out.j1⟩) (first
    | (go_at_call 366; (with_reducible refine Calls.mono HD.out ?_); rintro e w4 ⟨rfl, rfl⟩)
    | (go_at_call 62; (with_reducible refine Calls.mono HT.out ?_); rintro e w4 ⟨rfl, rfl⟩))
  all_goals
    go_wp2
    go_ret
    exact ⟨rfl, HB.out⟩
end Go.Proofs.YthgclfhfipfknaaGreat

namespace Go.Proofs.YthgclfhfipfknaaGreat
open Go.ChangeShapes Go.WideShapes Go.ChangeAt Go.RowKit Go.Maps
set_option linter.unusedVariables false

/-- The cells of a transaction. -/
def txc (j : Nat) (c n : Int) (pm : Option Nat) (sv : Value) (wr en : Bool) : Array Value := #[fcV j, .int .i64 c, .int .i64 0, .int .i64 n, .map pm, sv, .bool wr, .bool en]
abbrev TxB (w : World) (t j : Nat) (c n : Int) (pm : Option Nat) (sv : Value) (wr en : Bool) : Prop := Blk w t (txc j c n pm sv wr en) 122
theorem tx0 {w : World} {t j : Nat} {c n : Int} {pm : Option Nat} {sv : Value} {wr en : Bool} (h : TxB w t j c n pm sv wr en) : w.cell? ⟨t, 0, none⟩ = some (.iface 139 (.pointer (some ⟨j, 0, none⟩))) := h.cell 0
theorem tx1 {w : World} {t j : Nat} {c n : Int} {pm : Option Nat} {sv : Value} {wr en : Bool} (h : TxB w t j c n pm sv wr en) : w.cell? ⟨t, 1, none⟩ = some (.int .i64 c) := h.cell 1
theorem tx2 {w : World} {t j : Nat} {c n : Int} {pm : Option Nat} {sv : Value} {wr en : Bool} (h : TxB w t j c n pm sv wr en) : w.cell? ⟨t, 2, none⟩ = some (.int .i64 0) := h.cell 2
theorem tx3 {w : World} {t j : Nat} {c n : Int} {pm : Option Nat} {sv : Value} {wr en : Bool} (h : TxB w t j c n pm sv wr en) : w.cell? ⟨t, 3, none⟩ = some (.int .i64 n) := h.cell 3
theorem tx4 {w : World} {t j : Nat} {c n : Int} {pm : Option Nat} {sv : Value} {wr en : Bool} (h : TxB w t j c n pm sv wr en) : w.cell? ⟨t, 4, none⟩ = some (.map pm) := h.cell 4
theorem tx5 {w : World} {t j : Nat} {c n : Int} {pm : Option Nat} {sv : Value} {wr en : Bool} (h : TxB w t j c n pm sv wr en) : w.cell? ⟨t, 5, none⟩ = some sv := h.cell 5
theorem tx6 {w : World} {t j : Nat} {c n : Int} {pm : Option Nat} {sv : Value} {wr en : Bool} (h : TxB w t j c n pm sv wr en) : w.cell? ⟨t, 6, none⟩ = some (.bool wr) := h.cell 6
theorem tx7 {w : World} {t j : Nat} {c n : Int} {pm : Option Nat} {sv : Value} {wr en : Bool} (h : TxB w t j c n pm sv wr en) : w.cell? ⟨t, 7, none⟩ = some (.bool en) := h.cell 7
theorem face_neq (V : World) (j : Nat) : (binOp BinOp.neq 119 (.iface 139 (.pointer (some ⟨j, 0, none⟩))) .nilIface).run Tryz.prog V = .ok (.bool true) V := by kernel_rfl

theorem tthere_nil (w : World) : Calls Tryz.prog 124 #[.pointer none] w fun e w' => e = .returned (.bool false) ∧ w = w' := by
  go_enter Tryz.func124, Tryz.ntmps124
  go_wp2
  go_ret
  exact ⟨rfl, rfl⟩
theorem tthere_e (w : World) (t j : Nat) (h0 : w.cell? ⟨t, 0, none⟩ = some (.iface 139 (.pointer (some ⟨j, 0, none⟩)))) : Calls Tryz.prog 124 #[.pointer (some ⟨t, 0, none⟩)] w fun e w' => e = .returned (.bool true) ∧ w = w' := by
  have hn := face_neq
  go_enter Tryz.func124, Tryz.ntmps124
  go_wp2
  go_ret
  exact ⟨rfl, rfl⟩
set_option maxRecDepth 20000 in
theorem tover_e (w : World) (t j d mb l : Nat) (room : Int) (L : List Int) {c n : Int} {pm : Option Nat} {sv : Value} {wr : Bool} (h : Gr w j d mb l room L) (ht : TxB w t j c n pm sv wr false) : Calls Tryz.prog 125 #[.pointer (some ⟨t, 0, none⟩)] w fun e w' => e = .returned (.bool false) ∧ Below w.heap.size w w' := by
  have HT := hide (tthere_e w t j (tx0 ht))
  have HV := hide (over_e w j d mb l room L h)
  have c0 := tx0 ht
  have c7 := tx7 ht
  clear h ht
  go_enter Tryz.func125, Tryz.ntmps125
  go_wp2_with (first
    | (go_at_call 124; (with_reducible refine Calls.mono HT.out ?_); rintro e w4 ⟨rfl, rfl⟩)
    | (go_at_call 361; (with_reducible refine Calls.mono HV.out ?_); rintro e w5 ⟨rfl, hb⟩; have HB := hide hb; clear hb))
  go_ret
  exact ⟨rfl, HB.out⟩
end Go.Proofs.YthgclfhfipfknaaGreat

namespace Go.Proofs.YthgclfhfipfknaaGreat
open Go.ChangeShapes Go.WideShapes Go.ChangeAt Go.RowKit Go.Maps
set_option linter.unusedVariables false

theorem tover_end (w : World) (t j : Nat) {c n : Int} {pm : Option Nat} {sv : Value} {wr : Bool} (ht : TxB w t j c n pm sv wr true) : Calls Tryz.prog 125 #[.pointer (some ⟨t, 0, none⟩)] w fun e w' => e = .returned (.bool true) ∧ w = w' := by
  have HT := hide (tthere_e w t j (tx0 ht))
  have c7 := tx7 ht
  clear ht
  go_enter Tryz.func125, Tryz.ntmps125
  go_wp2_with (first
    | (go_at_call 124; (with_reducible refine Calls.mono HT.out ?_); rintro e w4 ⟨rfl, rfl⟩))
  go_ret
  exact ⟨rfl, rfl⟩
/-- What stands in the way of a transaction: nothing, that there is none, that it is over. -/
inductive GoK (w : World) : Option Addr → Int → Prop where
  | none : GoK w .none 1
  | ended {t j : Nat} {c n : Int} {pm : Option Nat} {sv : Value} {wr : Bool} (ht : TxB w t j c n pm sv wr true) : GoK w (some ⟨t, 0, Option.none⟩) 7
  | on {t j d mb l : Nat} {room : Int} {L : List Int} {c n : Int} {pm : Option Nat} {sv : Value} {wr : Bool} (h : Gr w j d mb l room L) (ht : TxB w t j c n pm sv wr false) : GoK w (some ⟨t, 0, Option.none⟩) 0
theorem GoK.later {w w' : World} {v : Option Addr} {e : Int} (h : GoK w v e) (hb : Below w.heap.size w w') : GoK w' v e := by
  cases h with
  | none => exact .none
  | ended ht => exact .ended (Blk.later ht hb)
  | on h ht => exact .on (h.later hb) (Blk.later ht hb)
theorem goesOn_e (w : World) (v : Option Addr) (E : Int) (h : GoK w v E) : Calls Tryz.prog 54 #[.pointer v] w fun e w' => e = .returned (.int .i64 E) ∧ Below w.heap.size w w' := by
  cases h with
  | none =>
    have HT := hide (tthere_nil w)
    have HB := hide (below_refl w)
    go_enter Tryz.func54, Tryz.ntmps54
    go_wp2_with (first
      | (go_at_call 124; (with_reducible refine Calls.mono HT.out ?_); rintro e w4 ⟨rfl, rfl⟩))
    go_ret
    exact ⟨rfl, HB.out⟩
  | @ended t j c n pm sv wr ht =>
    have HT := hide (tthere_e w t j (tx0 ht))
    have HO := hide (tover_end w t j ht)
    have HB := hide (below_refl w)
    clear ht
    go_enter Tryz.func54, Tryz.ntmps54
    go_wp2_with (first
      | (go_at_call 124; (with_reducible refine Calls.mono HT.out ?_); rintro e w4 ⟨rfl, rfl⟩)
      | (go_at_call 125; (with_reducible refine Calls.mono HO.out ?_); rintro e w4 ⟨rfl, rfl⟩))
    go_ret
    exact ⟨rfl, HB.out⟩
  | @on t j d mb l room L c n pm sv wr h ht =>
    have HT := hide (tthere_e w t j (tx0 ht))
    have HO := hide (tover_e w t j d mb l room L h ht)
    clear ht h
    go_enter Tryz.func54, Tryz.ntmps54
    go_wp2_with (first
      | (go_at_call 124; (with_reducible refine Calls.mono HT.out ?_); rintro e w4 ⟨rfl, rfl⟩)
      | (go_at_call 125; (with_reducible refine Calls.mono HO.out ?_); rintro e w4 ⟨rfl, hb⟩; have HB := hide hb; clear hb))
    go_ret
    exact ⟨rfl, HB.out⟩
/-- What stands in the way of a change. -/
inductive ChK (w : World) : Option Addr → Int → Prop where
  | stop {v : Option Addr} {e : Int} (h : GoK w v e) (he : e ≠ 0) : ChK w v e
  | reads {t j d mb l : Nat} {room : Int} {L : List Int} {c n : Int} {pm : Option Nat} {sv : Value} (h : Gr w j d mb l room L) (ht : TxB w t j c n pm sv false false) : ChK w (some ⟨t, 0, Option.none⟩) 191
  | may {t j d mb l : Nat} {room : Int} {L : List Int} {c n : Int} {pm : Option Nat} {sv : Value} (h : Gr w j d mb l room L) (ht : TxB w t j c n pm sv true false) : ChK w (some ⟨t, 0, Option.none⟩) 0
theorem ChK.later {w w' : World} {v : Option Addr} {e : Int} (h : ChK w v e) (hb : Below w.heap.size w w') : ChK w' v e := by
  cases h with
  | stop h he => exact .stop (h.later hb) he
  | reads h ht => exact .reads (h.later hb) (Blk.later ht hb)
  | may h ht => exact .may (h.later hb) (Blk.later ht hb)
theorem GoK.cases {w : World} {v : Option Addr} {e : Int} (h : GoK w v e) : e = 0 ∨ e = 1 ∨ e = 7 := by cases h <;> simp
theorem do_stopG (w : World) (v : Option Addr) (E : Int) (h : GoK w v E) (he : E ≠ 0) (f2 : Value) : Calls Tryz.prog 56 #[.func (.func 54) #[.pointer v] #[], f2] w fun e w' => e = .returned (.int .i64 E) ∧ Below w.heap.size w w' := by
  have HG := hide (goesOn_e w v E h)
  have he2 : (E == 0) = false := by simpa using he
  clear h
  go_enter Tryz.func56, Tryz.ntmps56
  go_wp2_with (first
    | (go_at_call 54; (with_reducible refine Calls.mono HG.out ?_); rintro e w4 ⟨rfl, hb⟩; have HB4 := hide hb; clear hb))
  go_ret
  exact ⟨rfl, HB4.out⟩
def chE (wr : Bool) : Int := if wr = true then 0 else 191
theorem mayChange1_e (w : World) (B t j : Nat) {c n : Int} {pm : Option Nat} {sv : Value} {wr : Bool} (hB : w.cell? ⟨B, 0, none⟩ = some (.pointer (some ⟨t, 0, none⟩))) (ht : TxB w t j c n pm sv wr false) : Calls Tryz.prog 126 #[.pointer (some ⟨B, 0, none⟩)] w fun e w' => e = .returned (.int .i64 (chE wr)) ∧ w = w' := by
  have c6 := tx6 ht
  clear ht
  cases wr
  all_goals
    go_enter Tryz.func126, Tryz.ntmps126
    go_wp2
    go_ret
    exact ⟨rfl, rfl⟩
theorem do_mc (w : World) (B t j d mb l : Nat) (room : Int) (L : List Int) {c n : Int} {pm : Option Nat} {sv : Value} {wr : Bool} (h : Gr w j d mb l room L) (ht : TxB w t j c n pm sv wr false) (hB : w.cell? ⟨B, 0, none⟩ = some (.pointer (some ⟨t, 0, none⟩))) :
    Calls Tryz.prog 56 #[.func (.func 54) #[.pointer (some ⟨t, 0, none⟩)] #[], .func (.func 126) #[] #[.pointer (some ⟨B, 0, none⟩)]] w fun e w' => e = .returned (.int .i64 (chE wr)) ∧ Below w.heap.size w w' := by
  have HG := hide (goesOn_e w _ 0 (.on h ht))
  have HM := hide (fun V (hb : Below w.heap.size w V) => mayChange1_e V B t j (cell_later hb hB) (Blk.later ht hb))
  clear h ht hB
  go_enter Tryz.func56, Tryz.ntmps56
  go_wp2_with (first
    | (go_at_call 54; (with_reducible refine Calls.mono HG.out ?_); rintro e w4 ⟨rfl, hb⟩; have HB4 := hide hb; clear hb)
    | (go_at_call 126; (with_reducible refine Calls.mono (HM.out _ HB4.out) ?_); rintro e w5 ⟨rfl, rfl⟩))
  go_ret
  exact ⟨rfl, HB4.out⟩
theorem mayChange_e (w : World) (v : Option Addr) (E : Int) (h : ChK w v E) : Calls Tryz.prog 57 #[.pointer v] w fun e w' => e = .returned (.int .i64 E) ∧ Below w.heap.size w w' := by
  have HB := hide (below_alloc w (.cells #[.pointer v] 24))
  have HN := hide (Blk.new w #[.pointer v] 24)
  have HD : Hid (Calls Tryz.prog 56 #[.func (.func 54) #[.pointer v] #[], .func (.func 126) #[] #[.pointer (some ⟨w.heap.size, 0, none⟩)]] (w.alloc (.cells #[.pointer v] 24)) fun e w' => e = .returned (.int .i64 E) ∧ Below (w.alloc (.cells #[.pointer v] 24)).heap.size (w.alloc (.cells #[.pointer v] 24)) w') := by
    cases h with
    | stop h he => exact do_stopG _ _ _ (h.later HB.out) he _
    | @reads t j d mb l room L c n pm sv h ht => exact do_mc _ w.heap.size t j d mb l room L (h.later HB.out) (Blk.later ht HB.out) (HN.out.cell 0)
    | @may t j d mb l room L c n pm sv h ht => exact do_mc _ w.heap.size t j d mb l room L (h.later HB.out) (Blk.later ht HB.out) (HN.out.cell 0)
  clear h
  go_enter Tryz.func57, Tryz.ntmps57
  go_wp2_with (first
    | (go_at_call 56; (with_reducible refine Calls.mono HD.out ?_); rintro e w4 ⟨rfl, hb⟩; have HB4 := hide (below_trans HB.out hb); clear hb))
  go_ret
  exact ⟨rfl, HB4.out⟩
theorem do_stopM (w : World) (v : Option Addr) (E : Int) (h : ChK w v E) (he : E ≠ 0) (f2 : Value) : Calls Tryz.prog 56 #[.func (.func 57) #[.pointer v] #[], f2] w fun e w' => e = .returned (.int .i64 E) ∧ Below w.heap.size w w' := by
  have HG := hide (mayChange_e w v E h)
  have he2 : (E == 0) = false := by simpa using he
  clear h
  go_enter Tryz.func56, Tryz.ntmps56
  go_wp2_with (first
    | (go_at_call 57; (with_reducible refine Calls.mono HG.out ?_); rintro e w4 ⟨rfl, hb⟩; have HB4 := hide hb; clear hb))
  go_ret
  exact ⟨rfl, HB4.out⟩
end Go.Proofs.YthgclfhfipfknaaGreat
