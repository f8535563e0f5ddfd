/- The disk's map of files: look-up, a new entry, the sum over all files. -/
import Derived.Test.YtfcgjedanhmpiaaG
import Derived.Maps.RangeRun
namespace Go.Proofs.Ytfcgjedanhmpiaa
open Go.ChangeShapes Go.WideShapes Go.ChangeAt Go.RowKit
open Go.ChangeMaps (setBlock)
set_option linter.unusedVariables false

/-- A file in the map: its name, the block of its entry, its stamp; the slices of what is seen and what is kept of it, and their bytes. -/
structure FL where
  name : ByteArray
  eb : Nat
  born : Nat
  sv : Value
  kv : Value
  seen : List UInt8
  kept : List UInt8

/-- A file that was just made. -/
def FL.fresh (name : ByteArray) (eb born : Nat) : FL := ⟨name, eb, born, .slice none 0 0, .slice none 0 0, [], []⟩

abbrev FL.ent (f : FL) : MapEntry := { key := .string f.name, val := .pointer (some ⟨f.eb, 0, none⟩), born := f.born }
def ents (fs : List FL) : Array MapEntry := (fs.map FL.ent).toArray
def look (fs : List FL) (nm : ByteArray) : Option FL := fs.find? fun f => nm == f.name

theorem findNow_ents (nm : ByteArray) : ∀ (fs : List FL) (i : Nat), (match look fs nm with | some f => ∃ j, Instr.findNow .string (.string nm) (fs.map FL.ent) i = some (some (j, .pointer (some ⟨f.eb, 0, none⟩))) | none => Instr.findNow .string (.string nm) (fs.map FL.ent) i = some none)
  | [], i => by simp [look, Instr.findNow]
  | f :: fs, i => by
    have ih := findNow_ents nm fs (i + 1)
    simp only [look, List.find?_cons, List.map_cons, Instr.findNow, Instr.sameNow] at ih ⊢
    cases h : nm == f.name
    · simpa using ih
    · exact ⟨i, rfl⟩

theorem ckey (w : World) (nm : ByteArray) (e : Bool) : (Instr.checkKey e 10000 9 (.string nm)).run Try.prog w = .ok () w :=
  MapKept.run_checkKey (d := .string) (k := .string nm) Try.underlying9 trivial e 9999

theorem look_run (w : World) (mb : Nat) (fs : List FL) (clock : Nat) (nm : ByteArray) (hm : w.heap[mb]? = some (.map (ents fs) clock)) :
    (Instr.lookup 68 (.map (some mb)) (.string nm) false).run Try.prog w = .ok (.pointer ((look fs nm).map fun f => ⟨f.eb, 0, none⟩)) w := by
  have h := findNow_ents nm fs 0
  have hz : (zeroValue 104).run Try.prog w = .ok (.pointer none) w := by kernel_rfl
  cases hl : look fs nm with
  | none =>
    rw [hl] at h
    simp [Instr.lookup, run_underlying Try.underlying68, MapKept.run_getObj_map hm, ckey w nm, MapKept.run_findKey (d := .string) Try.underlying9 (show _ = some none from h), ents, Result.andThen, hz]
  | some f =>
    rw [hl] at h
    obtain ⟨j, h⟩ := h
    simp [Instr.lookup, run_underlying Try.underlying68, MapKept.run_getObj_map hm, ckey w nm, MapKept.run_findKey (d := .string) Try.underlying9 h, ents, Result.andThen]

theorem new_run (w : World) (mb : Nat) (fs : List FL) (clock : Nat) (nm : ByteArray) (eb : Nat) (hm : w.heap[mb]? = some (.map (ents fs) clock)) (hl : look fs nm = none) :
    (Instr.mapUpdate 68 (.map (some mb)) (.string nm) (.pointer (some ⟨eb, 0, none⟩))).run Try.prog w = .ok () (setBlock w mb (.map (ents (fs ++ [FL.fresh nm eb clock])) (clock + 1))) := by
  have h := findNow_ents nm fs 0
  rw [hl] at h
  simp [Instr.mapUpdate, run_underlying Try.underlying68, MapKept.run_getObj_map hm, ckey w nm, MapKept.run_findKey (d := .string) Try.underlying9 (show _ = some none from h), ents, Result.andThen, MapKept.run_setObj_map (P := Try.prog) (w := w) _ hm, setBlock, FL.fresh]

theorem seen_hit (w : World) (b mb : Nat) (cv : Value) (room fuse steps starts : Int) (down : Bool) (fs : List FL) (clock : Nat) (nm : ByteArray) (f : FL) (hb : Blk w b (dcells mb cv room fuse steps starts down) 71)
    (hm : w.heap[mb]? = some (.map (ents fs) clock)) (hl : look fs nm = some f) :
    Calls Try.prog 45 #[.pointer (some ⟨b, 0, none⟩), .string nm] w fun e w' => e = .returned (.pointer (some ⟨f.eb, 0, none⟩)) ∧ w = w' := by
  have h0 := hb.cell 0
  simp at h0
  have hr := look_run w mb fs clock nm hm
  rw [hl] at hr
  simp only [Option.map_some] at hr
  clear hb hm hl
  go_enter Try.func45, Try.ntmps45
  go_wp2
  go_ret
  exact ⟨rfl, rfl⟩

theorem seen_miss (w : World) (b mb : Nat) (cv : Value) (room fuse steps starts : Int) (down : Bool) (fs : List FL) (clock : Nat) (nm : ByteArray) (hb : Blk w b (dcells mb cv room fuse steps starts down) 71)
    (hm : w.heap[mb]? = some (.map (ents fs) clock)) (hl : look fs nm = none) :
    Calls Try.prog 45 #[.pointer (some ⟨b, 0, none⟩), .string nm] w fun e w' => e = .returned (.pointer (some ⟨w.heap.size, 0, none⟩)) ∧ w' = w.alloc (.cells #[.slice none 0 0] 95) := by
  have h0 := hb.cell 0
  simp at h0
  have hr := look_run w mb fs clock nm hm
  rw [hl] at hr
  simp only [Option.map_none] at hr
  clear hb hm hl
  go_enter Try.func45, Try.ntmps45
  go_wp2
  go_ret
  exact ⟨rfl, rfl⟩

theorem entry_hit (w : World) (b mb : Nat) (cv : Value) (room fuse steps starts : Int) (down : Bool) (fs : List FL) (clock : Nat) (nm : ByteArray) (f : FL) (hb : Blk w b (dcells mb cv room fuse steps starts down) 71)
    (hm : w.heap[mb]? = some (.map (ents fs) clock)) (hl : look fs nm = some f) :
    Calls Try.prog 73 #[.pointer (some ⟨b, 0, none⟩), .string nm] w fun e w' => e = .returned (.pointer (some ⟨f.eb, 0, none⟩)) ∧ w = w' := by
  have h0 := hb.cell 0
  simp at h0
  have hr := look_run w mb fs clock nm hm
  rw [hl] at hr
  simp only [Option.map_some] at hr
  clear hb hm hl
  go_enter Try.func73, Try.ntmps73
  go_wp2
  go_ret
  exact ⟨rfl, rfl⟩

end Go.Proofs.Ytfcgjedanhmpiaa
