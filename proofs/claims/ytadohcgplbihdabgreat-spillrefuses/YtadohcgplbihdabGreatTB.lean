/- A disk without files: what it tells; the journal and the log on it. -/
import Derived.Test.YtadohcgplbihdabGreatTA
import Derived.WalkSpells
import Derived.Maps.RangeRun
namespace Go.Proofs.YtadohcgplbihdabGreat
open Go.ChangeShapes Go.WideShapes Go.ChangeAt Go.RowKit Go.Maps
set_option linter.unusedVariables false

/-- The cells of a disk without files that is up. -/
def dkc (mb : Nat) (room : Int) : Array Value := #[.map (some mb), .slice none 0 0, .int .i64 room, .int .i64 0, .int .i64 0, .int .i64 0, .bool false]
structure DE (w : World) (d mb : Nat) (room : Int) : Prop where
  blk : Blk w d (dkc mb room) 152
  mp : w.heap[mb]? = some (.map #[] 0)
theorem DE.later {w w' : World} {d mb : Nat} {room : Int} (h : DE w d mb room) (hb : Below w.heap.size w w') : DE w' d mb room :=
  ⟨h.blk.later hb, (hb.block mb (Array.getElem?_eq_some_iff.1 h.mp).1).trans h.mp⟩
theorem DE.drew {w : World} {d mb : Nat} {room : Int} (h : DE w d mb room) : DE w.drew d mb room := ⟨h.blk, h.mp⟩
theorem DE.c0 {w : World} {d mb : Nat} {room : Int} (h : DE w d mb room) : w.cell? ⟨d, 0, none⟩ = some (.map (some mb)) := h.blk.cell 0
theorem DE.c5 {w : World} {d mb : Nat} {room : Int} (h : DE w d mb room) : w.cell? ⟨d, 5, none⟩ = some (.int .i64 0) := h.blk.cell 5
theorem DE.c6 {w : World} {d mb : Nat} {room : Int} (h : DE w d mb room) : w.cell? ⟨d, 6, none⟩ = some (.bool false) := h.blk.cell 6

theorem ckey (w : World) (nm : ByteArray) (e : Bool) : (Instr.checkKey e 10000 9 (.string nm)).run Tryz.prog w = .ok () w :=
  MapKept.run_checkKey (d := .string) (k := .string nm) Tryz.underlying9 trivial e 9999
theorem find_none (nm : ByteArray) : Instr.findNow .string (.string nm) [] 0 = some none := rfl
theorem look_none (w : World) (mb : Nat) (nm : ByteArray) (hm : w.heap[mb]? = some (.map #[] 0)) :
    (Instr.lookup 149 (.map (some mb)) (.string nm) false).run Tryz.prog w = .ok (.pointer none) w := by
  have hz : (zeroValue 284).run Tryz.prog w = .ok (.pointer none) w := by kernel_rfl
  simp [Instr.lookup, run_underlying Tryz.underlying149, MapKept.run_getObj_map hm, ckey w nm, MapKept.run_findKey (d := .string) Tryz.underlying9 (find_none nm), Result.andThen, hz]

theorem made_e (w : World) (d mb : Nat) (room : Int) (h : DE w d mb room) : Calls Tryz.prog 109 #[.pointer (some ⟨d, 0, none⟩)] w fun e w' => e = .returned (.bool true) ∧ w = w' := by
  have k1 := fun (w : World) (r : Option Nat) => run_neq_map_nil (P := Tryz.prog) w 149 9 284 r Tryz.underlying149
  have c0 := h.c0
  clear h
  go_enter Tryz.func109, Tryz.ntmps109
  go_wp2
  go_ret
  exact ⟨rfl, rfl⟩
theorem refusal_e (w : World) (d mb : Nat) (room : Int) (h : DE w d mb room) : Calls Tryz.prog 164 #[.pointer (some ⟨d, 0, none⟩)] w fun e w' => e = .returned (.int .i64 0) ∧ w = w' := by
  have HM := hide (made_e w d mb room h)
  have c6 := h.c6
  clear h
  go_enter Tryz.func164, Tryz.ntmps164
  go_wp2_with (go_at_call 109; (with_reducible refine Calls.mono HM.out ?_); rintro e w0 ⟨rfl, rfl⟩)
  go_ret
  exact ⟨rfl, rfl⟩
theorem down_e (w : World) (d mb : Nat) (room : Int) (h : DE w d mb room) : Calls Tryz.prog 273 #[.pointer (some ⟨d, 0, none⟩)] w fun e w' => e = .returned (.bool false) ∧ w = w' := by
  have HM := hide (made_e w d mb room h)
  have c6 := h.c6
  clear h
  go_enter Tryz.func273, Tryz.ntmps273
  go_wp2_with (go_at_call 109; (with_reducible refine Calls.mono HM.out ?_); rintro e w0 ⟨rfl, rfl⟩)
  go_ret
  exact ⟨rfl, rfl⟩
theorem starts_e (w : World) (d mb : Nat) (room : Int) (h : DE w d mb room) : Calls Tryz.prog 67 #[.pointer (some ⟨d, 0, none⟩)] w fun e w' => e = .returned (.int .i64 0) ∧ w = w' := by
  have HM := hide (made_e w d mb room h)
  have c5 := h.c5
  clear h
  go_enter Tryz.func67, Tryz.ntmps67
  go_wp2_with (go_at_call 109; (with_reducible refine Calls.mono HM.out ?_); rintro e w0 ⟨rfl, rfl⟩)
  go_ret
  exact ⟨rfl, rfl⟩
theorem seen_e (w : World) (d mb : Nat) (room : Int) (h : DE w d mb room) (nm : ByteArray) : Calls Tryz.prog 165 #[.pointer (some ⟨d, 0, none⟩), .string nm] w fun e w' => e = .returned (.pointer (some ⟨w.heap.size, 0, none⟩)) ∧ w' = w.alloc (.cells #[.slice none 0 0] 288) := by
  have c0 := h.c0
  have hl := look_none w mb nm h.mp
  clear h
  go_enter Tryz.func165, Tryz.ntmps165
  go_wp2
  go_ret
  exact ⟨rfl, rfl⟩
theorem size_e (w : World) (q : Nat) (hc : w.cell? ⟨q, 0, none⟩ = some (.slice none 0 0)) : Calls Tryz.prog 192 #[.pointer (some ⟨q, 0, none⟩)] w fun e w' => e = .returned (.int .i64 0) ∧ w = w' := by
  go_enter Tryz.func192, Tryz.ntmps192
  go_wp2
  go_ret
  exact ⟨rfl, rfl⟩
end Go.Proofs.YtadohcgplbihdabGreat
