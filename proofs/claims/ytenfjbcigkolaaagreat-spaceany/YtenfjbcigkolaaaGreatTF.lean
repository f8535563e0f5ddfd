/- A store by the journal on a disk without files. -/
import Derived.Test.YtenfjbcigkolaaaGreatTE
import Derived.Test.YtenfjbcigkolaaaGreatLKE
namespace Go.Proofs.YtenfjbcigkolaaaGreat
open Go.ChangeShapes Go.WideShapes Go.ChangeAt Go.RowKit Go.Maps
set_option linter.unusedVariables false

/-- A store's face by the journal. -/
def fcV (j : Nat) : Value := .iface 117 (.pointer (some ⟨j, 0, none⟩))
/-- What a transaction by the journal stands on. -/
structure Gr (w : World) (j d mb l : Nat) (room : Int) (L : List Int) : Prop where
  jr : Blk w j #[.pointer (some ⟨d, 0, none⟩), .int .i64 0, .pointer (some ⟨l, 0, none⟩)] 119
  de : DE w d mb room
  lk : TB w l L
  l8 : L.length = 8
theorem Gr.later {w w' : World} {j d mb l : Nat} {room : Int} {L : List Int} (h : Gr w j d mb l room L) (hb : Below w.heap.size w w') : Gr w' j d mb l room L := ⟨h.jr.later hb, h.de.later hb, Blk.later h.lk hb, h.l8⟩
theorem Gr.drew {w : World} {j d mb l : Nat} {room : Int} {L : List Int} (h : Gr w j d mb l room L) : Gr w.drew j d mb l room L := ⟨h.jr, h.de.drew, h.lk, h.l8⟩
theorem Gr.j0 {w : World} {j d mb l : Nat} {room : Int} {L : List Int} (h : Gr w j d mb l room L) : w.cell? ⟨j, 0, none⟩ = some (.pointer (some ⟨d, 0, none⟩)) := h.jr.cell 0
theorem Gr.j1 {w : World} {j d mb l : Nat} {room : Int} {L : List Int} (h : Gr w j d mb l room L) : w.cell? ⟨j, 1, none⟩ = some (.int .i64 0) := h.jr.cell 1
theorem Gr.j2 {w : World} {j d mb l : Nat} {room : Int} {L : List Int} (h : Gr w j d mb l room L) : w.cell? ⟨j, 2, none⟩ = some (.pointer (some ⟨l, 0, none⟩)) := h.jr.cell 2

set_option maxRecDepth 20000 in
set_option maxHeartbeats 2000000 in
theorem over_e (w : World) (j d mb l : Nat) (room : Int) (L : List Int) (h : Gr w j d mb l room L) : Calls Tryz.prog 291 #[.pointer (some ⟨j, 0, none⟩)] w fun e w' => e = .returned (.bool false) ∧ Below w.heap.size w w' := by
  have HG := hide h.drew
  have HD := hide (down_e w.drew d mb room h.de.drew)
  have HT := hide (starts_e w.drew d mb room h.de.drew)
  have HB := hide (below_drew w)
  clear h
  go_enter Tryz.func291, Tryz.ntmps291
  go_upto_region 1 with fail
  go_region_held3 (fun V => V.cell? ⟨j, 0, none⟩ = some (.pointer (some ⟨d, 0, none⟩)) ∧ V.cell? ⟨j, 1, none⟩ = some (.int .i64 0)) (exact ⟨HG.out.j0, HG.out.j1⟩) (first
    | (go_at_call 298; (with_reducible refine Calls.mono HD.out ?_); rintro e w4 ⟨rfl, rfl⟩)
    | (go_at_call 56; (with_reducible refine Calls.mono HT.out ?_); rintro e w4 ⟨rfl, rfl⟩))
  all_goals
    go_wp2
    go_ret
    exact ⟨rfl, HB.out⟩
end Go.Proofs.YtenfjbcigkolaaaGreat
