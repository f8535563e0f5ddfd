/- A store by the journal on a disk without files. -/
/- A transaction in memory: whether it goes on, whether it may be changed. -/
import Derived.Test.YtenfjbcigkolaaaGreatTE
import Derived.Test.YtenfjbcigkolaaaGreatLKE
namespace Go.Proofs.YtenfjbcigkolaaaGreat
open Go.ChangeShapes Go.WideShapes Go.ChangeAt Go.RowKit Go.Maps
set_option linter.unusedVariables false

/-- A store's face by the journal. -/
def fcV (j : Nat) : Value := .iface 117 (.pointer (some ⟨j, 0, none⟩))
/-- What a transaction by the journal stands on. -/
structure Gr (w : World) (j d mb l : Nat) (room : Int) (L : List Int) : Prop where
  jr : Blk w j #[.pointer (some ⟨d, 0, none⟩), .int .i64 0, .pointer (some ⟨l, 0, none⟩)] 119
  de : DE w d mb room
  lk : TB w l L
  l8 : L.length = 8
theorem Gr.later {w w' : World} {j d mb l : Nat} {room : Int} {L : List Int} (h : Gr w j d mb l room L) (hb : Below w.heap.size w w') : Gr w' j d mb l room L := ⟨h.jr.later hb, h.de.later hb, Blk.later h.lk hb, h.l8⟩
theorem Gr.drew {w : World} {j d mb l : Nat} {room : Int} {L : List Int} (h : Gr w j d mb l room L) : Gr w.drew j d mb l room L := ⟨h.jr, h.de.drew, h.lk, h.l8⟩
theorem Gr.j0 {w : World} {j d mb l : Nat} {room : Int} {L : List Int} (h : Gr w j d mb l room L) : w.cell? ⟨j, 0, none⟩ = some (.pointer (some ⟨d, 0, none⟩)) := h.jr.cell 0
theorem Gr.j1 {w : World} {j d mb l : Nat} {room : Int} {L : List Int} (h : Gr w j d mb l room L) : w.cell? ⟨j, 1, none⟩ = some (.int .i64 0) := h.jr.cell 1
theorem Gr.j2 {w : World} {j d mb l : Nat} {room : Int} {L : List Int} (h : Gr w j d mb l room L) : w.cell? ⟨j, 2, none⟩ = some (.pointer (some ⟨l, 0, none⟩)) := h.jr.cell 2

set_option maxRecDepth 20000 in
set_option maxHeartbeats 2000000 in
theorem over_e (w : World) (j d mb l : Nat) (room : Int) (L : List Int) (h : Gr w j d mb l room L) : Calls Tryz.prog 291 #[.pointer (some ⟨j, 0, none⟩)] w fun e w' => e = .returned (.bool false) ∧ Below w.heap.size w w' := by
  have HG := hide h.drew
  have HD := hide (down_e w.drew d mb room h.de.drew)
  have HT := hide (starts_e w.drew d mb room h.de.drew)
  have HB := hide (below_drew w)
  clear h
  go_enter Tryz.func291, Tryz.ntmps291
  go_upto_region 1 with fail
  go_region_held3 (fun V => V.cell? ⟨j, 0, none⟩ = some (.pointer (some ⟨d, 0, none⟩)) ∧ V.cell? ⟨j, 1, none⟩ = some (.int .i64 0)) (exact ⟨HG.out.j0, HG.out.j1⟩) (first
    | (go_at_call 298; (with_reducible refine Calls.mono HD.out ?_); rintro e w4 ⟨rfl, rfl⟩)
    | (go_at_call 56; (with_reducible refine Calls.mono HT.out ?_); rintro e w4 ⟨rfl, rfl⟩))
  all_goals
    go_wp2
    go_ret
    exact ⟨rfl, HB.out⟩
end Go.Proofs.YtenfjbcigkolaaaGreat

namespace Go.Proofs.YtenfjbcigkolaaaGreat
open Go.ChangeShapes Go.WideShapes Go.ChangeAt Go.RowKit Go.Maps
set_option linter.unusedVariables false

/-- The cells of a transaction. -/
def txc (j : Nat) (c n : Int) (pm : Option Nat) (sv : Value) (wr en : Bool) : Array Value := #[fcV j, .int .i64 c, .int .i64 0, .int .i64 n, .map pm, sv, .bool wr, .bool en]
abbrev TxB (w : World) (t j : Nat) (c n : Int) (pm : Option Nat) (sv : Value) (wr en : Bool) : Prop := Blk w t (txc j c n pm sv wr en) 127
theorem tx0 {w : World} {t j : Nat} {c n : Int} {pm : Option Nat} {sv : Value} {wr en : Bool} (h : TxB w t j c n pm sv wr en) : w.cell? ⟨t, 0, none⟩ = some (.iface 117 (.pointer (some ⟨j, 0, none⟩))) := h.cell 0
theorem tx1 {w : World} {t j : Nat} {c n : Int} {pm : Option Nat} {sv : Value} {wr en : Bool} (h : TxB w t j c n pm sv wr en) : w.cell? ⟨t, 1, none⟩ = some (.int .i64 c) := h.cell 1
theorem tx2 {w : World} {t j : Nat} {c n : Int} {pm : Option Nat} {sv : Value} {wr en : Bool} (h : TxB w t j c n pm sv wr en) : w.cell? ⟨t, 2, none⟩ = some (.int .i64 0) := h.cell 2
theorem tx3 {w : World} {t j : Nat} {c n : Int} {pm : Option Nat} {sv : Value} {wr en : Bool} (h : TxB w t j c n pm sv wr en) : w.cell? ⟨t, 3, none⟩ = some (.int .i64 n) := h.cell 3
theorem tx4 {w : World} {t j : Nat} {c n : Int} {pm : Option Nat} {sv : Value} {wr en : Bool} (h : TxB w t j c n pm sv wr en) : w.cell? ⟨t, 4, none⟩ = some (.map pm) := h.cell 4
theorem tx5 {w : World} {t j : Nat} {c n : Int} {pm : Option Nat} {sv : Value} {wr en : Bool} (h : TxB w t j c n pm sv wr en) : w.cell? ⟨t, 5, none⟩ = some sv := h.cell 5
theorem tx6 {w : World} {t j : Nat} {c n : Int} {pm : Option Nat} {sv : Value} {wr en : Bool} (h : TxB w t j c n pm sv wr en) : w.cell? ⟨t, 6, none⟩ = some (.bool wr) := h.cell 6
theorem tx7 {w : World} {t j : Nat} {c n : Int} {pm : Option Nat} {sv : Value} {wr en : Bool} (h : TxB w t j c n pm sv wr en) : w.cell? ⟨t, 7, none⟩ = some (.bool en) := h.cell 7
theorem face_neq (V : World) (j : Nat) : (binOp BinOp.neq 113 (.iface 117 (.pointer (some ⟨j, 0, none⟩))) .nilIface).run Tryz.prog V = .ok (.bool true) V := by kernel_rfl

theorem tthere_nil (w : World) : Calls Tryz.prog 86 #[.pointer none] w fun e w' => e = .returned (.bool false) ∧ w = w' := by
  go_enter Tryz.func86, Tryz.ntmps86
  go_wp2
  go_ret
  exact ⟨rfl, rfl⟩
theorem tthere_e (w : World) (t j : Nat) (h0 : w.cell? ⟨t, 0, none⟩ = some (.iface 117 (.pointer (some ⟨j, 0, none⟩)))) : Calls Tryz.prog 86 #[.pointer (some ⟨t, 0, none⟩)] w fun e w' => e = .returned (.bool true) ∧ w = w' := by
  have hn := face_neq
  go_enter Tryz.func86, Tryz.ntmps86
  go_wp2
  go_ret
  exact ⟨rfl, rfl⟩
set_option maxRecDepth 20000 in
theorem tover_e (w : World) (t j d mb l : Nat) (room : Int) (L : List Int) {c n : Int} {pm : Option Nat} {sv : Value} {wr : Bool} (h : Gr w j d mb l room L) (ht : TxB w t j c n pm sv wr false) : Calls Tryz.prog 23 #[.pointer (some ⟨t, 0, none⟩)] w fun e w' => e = .returned (.bool false) ∧ Below w.heap.size w w' := by
  have HT := hide (tthere_e w t j (tx0 ht))
  have HV := hide (over_e w j d mb l room L h)
  have c0 := tx0 ht
  have c7 := tx7 ht
  clear h ht
  go_enter Tryz.func23, Tryz.ntmps23
  go_wp2_with (first
    | (go_at_call 86; (with_reducible refine Calls.mono HT.out ?_); rintro e w4 ⟨rfl, rfl⟩)
    | (go_at_call 291; (with_reducible refine Calls.mono HV.out ?_); rintro e w5 ⟨rfl, hb⟩; have HB := hide hb; clear hb))
  go_ret
  exact ⟨rfl, HB.out⟩
end Go.Proofs.YtenfjbcigkolaaaGreat
