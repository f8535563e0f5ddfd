/- The contracts of the changes' maker and of its closure over whatever world. -/
/- The contract of the changes' closure at a sector, over whatever world. -/
/- The disk's map of files: look-up, a new entry, the sum over all files. -/
/- The disk's map of files: a new entry; the sum over all files. -/
import Derived.Test.YteocmhbllckpjaaGreatE
import Derived.Maps.RangeRun
namespace Go.Proofs.YteocmhbllckpjaaGreat
open Go.ChangeShapes Go.WideShapes Go.ChangeAt Go.RowKit
set_option linter.unusedVariables false

/-- The cells of a change. -/
def chg (nm : ByteArray) (sector size : Int) (data : List UInt8) : List Value := [.string nm, .int .i64 sector, .int .i64 size] ++ bcs data

theorem length_chg (nm : ByteArray) (sector size : Int) (data : List UInt8) : (chg nm sector size data).length = 3 + data.length := by simp [chg, length_bcs]; omega
theorem one_chg (nm : ByteArray) (sector size : Int) (data : List UInt8) : ∀ v ∈ chg nm sector size data, v.oneCell' = true := by
  intro v hv
  simp only [chg, List.cons_append, List.nil_append, List.mem_cons] at hv
  rcases hv with rfl | rfl | rfl | hv
  · rfl
  · rfl
  · rfl
  · exact one_bcs data v hv

theorem store_all {P : Program} (w : World) (g : Nat) (t : TypeId) (vs : List Value) (cur : Array Value) (hg : w.heap[g]? = some (.cells cur t (0, 0))) (hl : vs.length = cur.size) (h1 : ∀ v ∈ vs, v.oneCell' = true) :
    (storeCells ⟨g, 0, none⟩ vs).run P w = .ok () (w.setRow g vs.toArray) := by
  have := run_storeCells_at P g 0 t vs 0 cur w hg (by omega) h1
  rw [this]
  simp only [Nat.add_zero, Nat.zero_add, List.take_zero, List.nil_append, hl]
  rw [List.drop_of_length_le (by simp), List.append_nil]

theorem zeros75 (nm : ByteArray) (n : Int) (s : Int) : (((Tryz.zeroCells112.toList.set 0 (Value.string nm)).set 1 (Value.int IntKind.i64 s)).set 2 (Value.int IntKind.i64 n)) = chg nm s n (List.replicate 64 0) := rfl
theorem info75s : (Tryz.prog.info? 112).map (·.size) = some 67 := by kernel_rfl
theorem zeros75_size : Tryz.zeroCells112.size = 67 := by kernel_rfl

theorem changer_any (w : World) (b o : Nat) (nm : ByteArray) :
    Calls Tryz.prog 115 #[.pointer (some ⟨b, o, none⟩), .string nm] w fun e w' => e = .returned (.func (.func 135) #[] #[.pointer (some ⟨w.heap.size + 1, 0, none⟩), .pointer (some ⟨w.heap.size, 0, none⟩)]) ∧ w' = (w.alloc (.cells #[.pointer (some ⟨b, o, none⟩)] 86)).alloc (.cells #[.string nm] 9) := by
  go_enter Tryz.func115, Tryz.ntmps115
  go_wp2
  go_ret
  exact ⟨rfl, rfl⟩

set_option maxRecDepth 100000 in
theorem change_size (w : World) (nb sb b o : Nat) (nm : ByteArray) (a : Option Addr) (n c : Nat) (hn : w.cell? ⟨nb, 0, none⟩ = some (.string nm)) (hs : w.cell? ⟨sb, 0, none⟩ = some (.pointer (some ⟨b, o, none⟩)))
    (h : w.cell? ⟨b, o, none⟩ = some (.slice a n c)) :
    Calls Tryz.prog 135 #[.int .i64 (-1), .pointer (some ⟨nb, 0, none⟩), .pointer (some ⟨sb, 0, none⟩)] w fun e w' => e = .returned (.agg (chg nm (-1) n (List.replicate 64 0)).toArray) ∧ w.grownBy w' none := by
  go_enter Tryz.func135, Tryz.ntmps135
  go_wp2
  have hz := alloc_new w (.cells Tryz.zeroCells112 112)
  have hgr := World.grownBy_alloc w (.cells Tryz.zeroCells112 112) none
  have hs1 : (w.alloc (.cells Tryz.zeroCells112 112)).heap.size = w.heap.size + 1 := by simp
  go_name_world W hW
  rw [hW] at hz hgr hs1
  clear hW
  have hn' := hgr.cell hn (by simp)
  have hs' := hgr.cell hs (by simp)
  have h' := hgr.cell h (by simp)
  obtain ⟨X, hX⟩ : ∃ X : Array Value, X = (chg nm (-1) n (List.replicate 64 0)).toArray := ⟨_, rfl⟩
  have hst : (storeCells ⟨w.heap.size, 0, none⟩ (((Tryz.zeroCells112.toList.set 0 (Value.string nm)).set 1 (Value.int IntKind.i64 (-1))).set 2 (Value.int IntKind.i64 n))).run Tryz.prog W.drew = .ok () (W.drew.setRow w.heap.size X) := by
    rw [zeros75, hX]
    exact store_all W.drew _ 112 _ _ hz (by rw [length_chg, zeros75_size]; rfl) (one_chg _ _ _ _)
  have hXs : (Tryz.prog.info? 112).map (·.size) = some X.size := by
    have e : X.size = 67 := by rw [hX, List.size_toArray, length_chg]; rfl
    rw [e]; exact info75s
  have HX : Hid (X = (chg nm (-1) n (List.replicate 64 0)).toArray) := hX
  have HI : Hid ((Tryz.prog.info? 112).map (·.size) = some X.size) := hXs
  have HZ : Hid (W.heap[w.heap.size]? = some (.cells Tryz.zeroCells112 112 (0, 0))) := hz
  clear hn hs h hX hXs hz
  go_region_with (go_at_call 79; refine (size_of W.drew b o a n c h').mono ?_; rintro e w2 ⟨rfl, rfl⟩)
  all_goals
    go_wp2
    refine bodyPost_ret (v := .agg X) (results_cell_row Tryz.results135 _ _ w.heap.size 112 X (0, 0) _ rfl (setRow_heap W.drew _ _ _ _ _ HZ.out) Tryz.underlying112 rfl HI.out) rfl ⟨by rw [HX.out], ?_⟩
    refine ⟨hgr.os, hgr.tape, hgr.output, by simp [hs1], fun j hj _ => ?_⟩
    rw [setRow_other _ _ _ _ (by omega)]
    exact hgr.block j hj (by simp)

end Go.Proofs.YteocmhbllckpjaaGreat

namespace Go.Proofs.YteocmhbllckpjaaGreat
open Go.ChangeShapes Go.WideShapes Go.ChangeAt Go.RowKit
set_option linter.unusedVariables false

theorem length_secOf (l : List UInt8) (k : Nat) : (secOf l k).length = 64 := by unfold secOf; rw [length_splice] <;> simp; omega
theorem grown_drew {w W : World} {r : Option Nat} (h : w.grownBy W r) : w.grownBy W.drew r := ⟨h.os, h.tape, h.output, h.size, h.block⟩
theorem own_none {w W : World} {base : Nat} {e : TypeId} {size : Nat} {v : Value} {n : Nat} {xs : List Value} (h : w.ownsRow base e size v n xs) (hg : w.grownBy W none) : W.ownsRow base e size v n xs :=
  h.kept hg (by cases hv : v.ownBlock <;> simp)

theorem fold_set_list (off : Nat) : ∀ (vs : List Value) (i : Nat) (cur : Array Value), off + i + vs.length ≤ cur.size →
    (vs.zipIdx i).foldl (fun cs x => cs.setIfInBounds (off + x.2) x.1) cur = (cur.toList.take (off + i) ++ vs ++ cur.toList.drop (off + i + vs.length)).toArray
  | [], i, cur, h => by simp
  | v :: vs, i, cur, h => by
    simp only [List.length_cons] at h
    have hlt : off + i < cur.toList.length := by simp; omega
    have e : (cur.setIfInBounds (off + i) v).toList = cur.toList.take (off + i) ++ v :: cur.toList.drop (off + i + 1) := by
      rw [Array.toList_setIfInBounds, List.set_eq_take_append_cons_drop, if_pos hlt]
    have hl : (cur.toList.take (off + i)).length = off + i := by rw [List.length_take]; omega
    rw [List.zipIdx_cons, List.foldl_cons, fold_set_list off vs (i + 1) _ (by simp; omega), e]
    congr 1
    have t1 : (cur.toList.take (off + i) ++ v :: cur.toList.drop (off + i + 1)).take (off + (i + 1)) = cur.toList.take (off + i) ++ [v] := by
      rw [List.take_append, hl, List.take_of_length_le (by rw [hl]; omega), show off + (i + 1) - (off + i) = 1 by omega]
      simp
    have t2 : (cur.toList.take (off + i) ++ v :: cur.toList.drop (off + i + 1)).drop (off + (i + 1) + vs.length) = cur.toList.drop (off + i + (vs.length + 1)) := by
      rw [List.drop_append, hl, List.drop_of_length_le (by rw [hl]; omega), show off + (i + 1) + vs.length - (off + i) = vs.length + 1 by omega]
      simp [List.drop_drop]
      congr 1; omega
    rw [t1, t2]
    simp [List.length_cons]

theorem fold_set (S cur : Array Value) (off n : Nat) (hn : n = S.size) (h : off + S.size ≤ cur.size) :
    Array.foldl (fun cs x => cs.setIfInBounds (off + x.snd) x.fst) cur S.zipIdx 0 n = (splice cur.toList off S.toList).toArray := by
  subst hn
  have := fold_set_list off S.toList 0 cur (by simpa using h)
  rw [Array.foldl_eq_foldl_extract]
  have e : S.zipIdx.extract 0 S.size = S.zipIdx := by rw [Array.extract_eq_self_of_le (by simp)]
  rw [e, ← Array.foldl_toList, Array.toList_zipIdx, this]
  simp [splice]

theorem build_chg (nm : ByteArray) (k : Int) (l : List UInt8) (q : Nat) :
    Array.foldl (fun cs x => cs.setIfInBounds (3 + x.snd) x.fst) ((Tryz.zeroCells112.setIfInBounds 0 (.string nm)).setIfInBounds 1 (.int .i64 k)) (bcs (secOf l q)).toArray.zipIdx 0 64 = (chg nm k 0 (secOf l q)).toArray := by
  have h64 : (bcs (secOf l q)).toArray.size = 64 := by simp [length_bcs, length_secOf]
  rw [fold_set _ _ _ _ h64.symm (by rw [h64]; simp)]
  congr 1
  unfold splice chg
  have h67 : (((Tryz.zeroCells112.setIfInBounds 0 (.string nm)).setIfInBounds 1 (.int .i64 k)).toList.drop (3 + (bcs (secOf l q)).length)) = [] := List.drop_of_length_le (by rw [length_bcs, length_secOf]; simp)
  rw [h67, List.append_nil]
  rfl

set_option maxRecDepth 100000 in
theorem change_sector (w : World) (nb sb b o : Nat) (nm : ByteArray) (c : Array Value) (t : TypeId) (base : Nat) (v : Value) (l : List UInt8) (k : Nat) (hn : w.cell? ⟨nb, 0, none⟩ = some (.string nm)) (hs : w.cell? ⟨sb, 0, none⟩ = some (.pointer (some ⟨b, o, none⟩)))
    (hb : Blk w b c t) (hc : c[o]? = some v) (hown : Own w base v l) (hk : k * 64 < l.length) (hl : l.length ≤ 1048576) :
    Calls Tryz.prog 135 #[.int .i64 k, .pointer (some ⟨nb, 0, none⟩), .pointer (some ⟨sb, 0, none⟩)] w fun e w' => e = .returned (.agg (chg nm k 0 (secOf l k)).toArray) ∧ w.grownBy w' none := by
  have hk0 : ((k : Int) == -1) = false := by simp
  go_enter Tryz.func135, Tryz.ntmps135
  go_wp2
  have hz := alloc_new w (.cells Tryz.zeroCells112 112)
  have hgr := World.grownBy_alloc w (.cells Tryz.zeroCells112 112) none
  have hs1 : (w.alloc (.cells Tryz.zeroCells112 112)).heap.size = w.heap.size + 1 := by simp
  go_name_world W hW
  rw [hW] at hz hgr hs1
  clear hW
  have hn' := hgr.cell hn (by simp)
  have hs' := hgr.cell hs (by simp)
  have hb' : Blk W.drew b c t := (hgr.block b hb.lt (by simp)).trans hb
  have hown' : Own W.drew base v l := own_none hown (grown_drew hgr)
  have HS := sector_at W.drew b o c t base v l k hb' hc hown' hk hl
  obtain ⟨S, hS⟩ : ∃ S : Array Value, S = (bcs (secOf l k)).toArray := ⟨_, rfl⟩
  rw [← hS] at HS
  have hSs : S.size = 64 := by rw [hS]; simp [length_bcs, length_secOf]
  have HSe : Hid (S = (bcs (secOf l k)).toArray) := hS
  obtain ⟨X, hX⟩ : ∃ X : Array Value, X = (chg nm k 0 (secOf l k)).toArray := ⟨_, rfl⟩
  have hbd : Array.foldl (fun cs x => cs.setIfInBounds (3 + x.snd) x.fst) ((Tryz.zeroCells112.setIfInBounds 0 (.string nm)).setIfInBounds 1 (.int .i64 k)) S.zipIdx 0 64 = X := by
    rw [hS, hX]; exact build_chg nm k l k
  have hXs : X.size = 67 := by rw [hX, List.size_toArray, length_chg, length_secOf]
  have HO : Hid (∀ v ∈ X.toList, v.oneCell' = true) := by rw [hX]; exact one_chg _ _ _ _
  have HX : Hid (X = (chg nm k 0 (secOf l k)).toArray) := hX
  have HZ : Hid (W.heap[w.heap.size]? = some (.cells Tryz.zeroCells112 112 (0, 0))) := hz
  clear hn hs hb hc hown hb' hown' hS hX hz
  go_region_with (go_at_call 136; refine HS.mono ?_; rintro e w2 ⟨rfl, hg2⟩; have hn2 := hg2.cell (w := W.drew) hn' (by simp); have hz2 : Hid (w2.heap[w.heap.size]? = some (.cells Tryz.zeroCells112 112 (0, 0))) := (hg2.block w.heap.size (by show _ < W.heap.size; omega) (by simp)).trans HZ.out; have hst2 := store_all (P := Tryz.prog) w2 w.heap.size 112 X.toList _ hz2.out (by rw [zeros75_size, Array.length_toList, hXs]) HO.out)
  all_goals
    go_wp2
    refine bodyPost_ret (v := .agg X) (results_cell_row Tryz.results135 _ _ w.heap.size 112 X (0, 0) _ rfl (setRow_heap w2 _ _ _ _ _ hz2.out) Tryz.underlying112 rfl (by rw [hXs]; exact info75s)) rfl ⟨by rw [HX.out], ?_⟩
    refine ⟨hg2.os.trans hgr.os, hg2.tape.trans hgr.tape, hg2.output.trans hgr.output, by have := hg2.size; have := hgr.size; rw [size_setRow]; exact Nat.le_trans hgr.size hg2.size, fun j hj _ => ?_⟩
    rw [setRow_other _ _ _ _ (by omega), hg2.block j (Nat.lt_of_lt_of_le hj hgr.size) (by simp)]
    exact hgr.block j hj (by simp)

end Go.Proofs.YteocmhbllckpjaaGreat

namespace Go.Proofs.YteocmhbllckpjaaGreat
open Go.ChangeShapes Go.WideShapes Go.ChangeAt Go.RowKit
open Go.ChangeMaps (setBlock)
set_option linter.unusedVariables false

/-- A file in the map: its name, the block of its entry, its stamp; the slices of what is seen and what is kept of it, and their bytes. -/
structure FL where
  name : ByteArray
  eb : Nat
  born : Nat
  sv : Value
  kv : Value
  seen : List UInt8
  kept : List UInt8

/-- A file that was just made. -/
def FL.fresh (name : ByteArray) (eb born : Nat) : FL := ⟨name, eb, born, .slice none 0 0, .slice none 0 0, [], []⟩

abbrev FL.ent (f : FL) : MapEntry := { key := .string f.name, val := .pointer (some ⟨f.eb, 0, none⟩), born := f.born }
def ents (fs : List FL) : Array MapEntry := (fs.map FL.ent).toArray
def look (fs : List FL) (nm : ByteArray) : Option FL := fs.find? fun f => nm == f.name

theorem findNow_ents (nm : ByteArray) : ∀ (fs : List FL) (i : Nat), (match look fs nm with | some f => ∃ j, Instr.findNow .string (.string nm) (fs.map FL.ent) i = some (some (j, .pointer (some ⟨f.eb, 0, none⟩))) | none => Instr.findNow .string (.string nm) (fs.map FL.ent) i = some none)
  | [], i => by simp [look, Instr.findNow]
  | f :: fs, i => by
    have ih := findNow_ents nm fs (i + 1)
    simp only [look, List.find?_cons, List.map_cons, Instr.findNow, Instr.sameNow] at ih ⊢
    cases h : nm == f.name
    · simpa using ih
    · exact ⟨i, rfl⟩

theorem ckey (w : World) (nm : ByteArray) (e : Bool) : (Instr.checkKey e 10000 9 (.string nm)).run Tryz.prog w = .ok () w :=
  MapKept.run_checkKey (d := .string) (k := .string nm) Tryz.underlying9 trivial e 9999

theorem look_run (w : World) (mb : Nat) (fs : List FL) (clock : Nat) (nm : ByteArray) (hm : w.heap[mb]? = some (.map (ents fs) clock)) :
    (Instr.lookup 73 (.map (some mb)) (.string nm) false).run Tryz.prog w = .ok (.pointer ((look fs nm).map fun f => ⟨f.eb, 0, none⟩)) w := by
  have h := findNow_ents nm fs 0
  have hz : (zeroValue 120).run Tryz.prog w = .ok (.pointer none) w := by kernel_rfl
  cases hl : look fs nm with
  | none =>
    rw [hl] at h
    simp [Instr.lookup, run_underlying Tryz.underlying73, MapKept.run_getObj_map hm, ckey w nm, MapKept.run_findKey (d := .string) Tryz.underlying9 (show _ = some none from h), ents, Result.andThen, hz]
  | some f =>
    rw [hl] at h
    obtain ⟨j, h⟩ := h
    simp [Instr.lookup, run_underlying Tryz.underlying73, MapKept.run_getObj_map hm, ckey w nm, MapKept.run_findKey (d := .string) Tryz.underlying9 h, ents, Result.andThen]

theorem new_run (w : World) (mb : Nat) (fs : List FL) (clock : Nat) (nm : ByteArray) (eb : Nat) (hm : w.heap[mb]? = some (.map (ents fs) clock)) (hl : look fs nm = none) :
    (Instr.mapUpdate 73 (.map (some mb)) (.string nm) (.pointer (some ⟨eb, 0, none⟩))).run Tryz.prog w = .ok () (setBlock w mb (.map (ents (fs ++ [FL.fresh nm eb clock])) (clock + 1))) := by
  have h := findNow_ents nm fs 0
  rw [hl] at h
  simp [Instr.mapUpdate, run_underlying Tryz.underlying73, MapKept.run_getObj_map hm, ckey w nm, MapKept.run_findKey (d := .string) Tryz.underlying9 (show _ = some none from h), ents, Result.andThen, MapKept.run_setObj_map (P := Tryz.prog) (w := w) _ hm, setBlock, FL.fresh]

theorem seen_hit (w : World) (b mb : Nat) (cv : Value) (room fuse steps starts : Int) (down : Bool) (fs : List FL) (clock : Nat) (nm : ByteArray) (f : FL) (hb : Blk w b (dcells mb cv room fuse steps starts down) 76)
    (hm : w.heap[mb]? = some (.map (ents fs) clock)) (hl : look fs nm = some f) :
    Calls Tryz.prog 39 #[.pointer (some ⟨b, 0, none⟩), .string nm] w fun e w' => e = .returned (.pointer (some ⟨f.eb, 0, none⟩)) ∧ w = w' := by
  have h0 := hb.cell 0
  simp at h0
  have hr := look_run w mb fs clock nm hm
  rw [hl] at hr
  simp only [Option.map_some] at hr
  clear hb hm hl
  go_enter Tryz.func39, Tryz.ntmps39
  go_wp2
  go_ret
  exact ⟨rfl, rfl⟩

theorem seen_miss (w : World) (b mb : Nat) (cv : Value) (room fuse steps starts : Int) (down : Bool) (fs : List FL) (clock : Nat) (nm : ByteArray) (hb : Blk w b (dcells mb cv room fuse steps starts down) 76)
    (hm : w.heap[mb]? = some (.map (ents fs) clock)) (hl : look fs nm = none) :
    Calls Tryz.prog 39 #[.pointer (some ⟨b, 0, none⟩), .string nm] w fun e w' => e = .returned (.pointer (some ⟨w.heap.size, 0, none⟩)) ∧ w' = w.alloc (.cells #[.slice none 0 0] 116) := by
  have h0 := hb.cell 0
  simp at h0
  have hr := look_run w mb fs clock nm hm
  rw [hl] at hr
  simp only [Option.map_none] at hr
  clear hb hm hl
  go_enter Tryz.func39, Tryz.ntmps39
  go_wp2
  go_ret
  exact ⟨rfl, rfl⟩

theorem entry_hit (w : World) (b mb : Nat) (cv : Value) (room fuse steps starts : Int) (down : Bool) (fs : List FL) (clock : Nat) (nm : ByteArray) (f : FL) (hb : Blk w b (dcells mb cv room fuse steps starts down) 76)
    (hm : w.heap[mb]? = some (.map (ents fs) clock)) (hl : look fs nm = some f) :
    Calls Tryz.prog 113 #[.pointer (some ⟨b, 0, none⟩), .string nm] w fun e w' => e = .returned (.pointer (some ⟨f.eb, 0, none⟩)) ∧ w = w' := by
  have h0 := hb.cell 0
  simp at h0
  have hr := look_run w mb fs clock nm hm
  rw [hl] at hr
  simp only [Option.map_some] at hr
  clear hb hm hl
  go_enter Tryz.func113, Tryz.ntmps113
  go_wp2
  go_ret
  exact ⟨rfl, rfl⟩

end Go.Proofs.YteocmhbllckpjaaGreat

namespace Go.Proofs.YteocmhbllckpjaaGreat
open Go.ChangeShapes Go.WideShapes Go.ChangeAt Go.RowKit
open Go.ChangeMaps (setBlock)
set_option linter.unusedVariables false

theorem setBlock_same {w : World} {b : Nat} {o o' : Obj} (h : w.heap[b]? = some o) : (setBlock w b o').heap[b]? = some o' := (MapKept.heap_set h).1
theorem setBlock_other {w : World} {b k : Nat} (o' : Obj) (hk : k ≠ b) : (setBlock w b o').heap[k]? = w.heap[k]? := by
  show (w.heap.setIfInBounds b o')[k]? = _
  simp [Ne.symm hk]
theorem Only.setBlock (w : World) (b : Nat) (o' : Obj) : Only [b] w (setBlock w b o') :=
  ⟨rfl, rfl, rfl, by simp [ChangeMaps.setBlock], fun k hk hn => setBlock_other o' (by simpa using hn)⟩

theorem bytes_beq (nm : ByteArray) : (nm == nm) = true := by
  rw [MapKept.bytes_beq]

theorem look_snoc (fs : List FL) (nm : ByteArray) (f : FL) (hl : look fs nm = none) (hf : (nm == f.name) = true) : look (fs ++ [f]) nm = some f := by
  unfold look at *
  rw [List.find?_append, hl]
  simp [hf]

theorem entry_new (w : World) (b mb : Nat) (cv : Value) (room fuse steps starts : Int) (down : Bool) (fs : List FL) (clock : Nat) (nm : ByteArray) (hb : Blk w b (dcells mb cv room fuse steps starts down) 76)
    (hm : w.heap[mb]? = some (.map (ents fs) clock)) (hl : look fs nm = none) :
    Calls Tryz.prog 113 #[.pointer (some ⟨b, 0, none⟩), .string nm] w fun e w' => e = .returned (.pointer (some ⟨w.heap.size, 0, none⟩)) ∧
      w' = setBlock (w.alloc (.cells #[.slice none 0 0, .slice none 0 0] 119)) mb (.map (ents (fs ++ [(FL.fresh nm w.heap.size clock)])) (clock + 1)) := by
  have h0 := hb.cell 0
  simp at h0
  have hr := look_run w mb fs clock nm hm
  rw [hl] at hr
  simp only [Option.map_none] at hr
  have hm1 : (w.alloc (.cells #[.slice none 0 0, .slice none 0 0] 119)).heap[mb]? = some (.map (ents fs) clock) := (Below.heap_alloc _ _ _ (Array.getElem?_eq_some_iff.1 hm).1).trans hm
  have hne : b ≠ mb := by rintro rfl; have h1 : some (Obj.cells _ _ _) = some (Obj.map _ _) := hb.symm.trans hm; cases h1
  have hu := new_run (w.alloc (.cells #[.slice none 0 0, .slice none 0 0] 119)) mb fs clock nm w.heap.size hm1 hl
  obtain ⟨W, hW⟩ : ∃ W, W = setBlock (w.alloc (.cells #[.slice none 0 0, .slice none 0 0] 119)) mb (.map (ents (fs ++ [(FL.fresh nm w.heap.size clock)])) (clock + 1)) := ⟨_, rfl⟩
  rw [← hW] at hu
  have hmW : W.heap[mb]? = some (.map (ents (fs ++ [(FL.fresh nm w.heap.size clock)])) (clock + 1)) := by rw [hW]; exact setBlock_same hm1
  have hbW : Blk W b (dcells mb cv room fuse steps starts down) 76 := by
    rw [hW]; exact (setBlock_other _ hne).trans ((Below.heap_alloc _ _ _ hb.lt).trans hb)
  have h0W := hbW.cell 0
  simp at h0W
  have hr2 := look_run W mb _ _ nm hmW
  rw [look_snoc fs nm (FL.fresh nm w.heap.size clock) hl (bytes_beq nm)] at hr2
  simp only [Option.map_some] at hr2
  have HW : Hid (W = setBlock (w.alloc (.cells #[.slice none 0 0, .slice none 0 0] 119)) mb (.map (ents (fs ++ [(FL.fresh nm w.heap.size clock)])) (clock + 1))) := hW
  clear hb hm hl hW hmW hbW hm1
  go_enter Tryz.func113, Tryz.ntmps113
  go_wp2
  go_ret
  exact ⟨rfl, HW.out⟩

/-- The sizes of the files that have been handed out, added up. -/
def gsum (sz : FL → Nat) : List FL → Array Nat → Int
  | [], _ => 0
  | f :: l, seen => (if seen.contains f.born then (sz f : Int) else 0) + gsum sz l seen
def tot (sz : FL → Nat) (fs : List FL) : Nat := (fs.map sz).sum

theorem gsum_other (sz : FL → Nat) (seen : Array Nat) (b : Nat) : ∀ (fs : List FL), b ∉ fs.map (·.born) → gsum sz fs (seen.push b) = gsum sz fs seen
  | [], _ => rfl
  | x :: l, h => by
    have hx : (x.born == b) = false := by
      cases hc : x.born == b with
      | false => rfl
      | true => exact absurd (List.mem_cons.2 (Or.inl (beq_iff_eq.1 hc).symm)) h
    have ih := gsum_other sz seen b l (fun e => h (List.mem_cons.2 (Or.inr e)))
    simp only [gsum, contains_push, hx, Bool.or_false, ih]

theorem gsum_push (sz : FL → Nat) (seen : Array Nat) (f : FL) (hs : seen.contains f.born = false) : ∀ (fs : List FL), (fs.map (·.born)).Nodup → f ∈ fs → gsum sz fs (seen.push f.born) = gsum sz fs seen + sz f
  | x :: l, hn, he => by
    have hn' : x.born ∉ l.map (·.born) ∧ (l.map (·.born)).Nodup := List.nodup_cons.1 hn
    rcases List.mem_cons.1 he with rfl | h
    · simp only [gsum, contains_push, hs, beq_self_eq_true, Bool.or_true, if_true, Bool.false_eq_true, if_false, gsum_other sz seen f.born l hn'.1]
      omega
    · have hx : (x.born == f.born) = false := by
        cases hc : x.born == f.born with
        | false => rfl
        | true => exact absurd (by rw [beq_iff_eq.1 hc]; exact List.mem_map.2 ⟨f, h, rfl⟩) hn'.1
      simp only [gsum, contains_push, hx, Bool.or_false, gsum_push sz seen f hs l hn'.2 h]
      omega

theorem gsum_full (sz : FL → Nat) (seen : Array Nat) : ∀ (fs : List FL), (∀ x ∈ fs, seen.contains x.born = true) → gsum sz fs seen = tot sz fs
  | [], _ => rfl
  | x :: l, h => by
    simp only [gsum, tot, h x (List.mem_cons.2 (Or.inl rfl)), if_true, List.map_cons, List.sum_cons, gsum_full sz seen l (fun y hy => h y (List.mem_cons.2 (Or.inr hy)))]
    simp

theorem gsum_none (sz : FL → Nat) : ∀ (fs : List FL), gsum sz fs #[] = 0
  | [] => rfl
  | x :: l => by simp [gsum, gsum_none sz l]

theorem gsum_bd (sz : FL → Nat) (seen : Array Nat) : ∀ (fs : List FL), 0 ≤ gsum sz fs seen ∧ gsum sz fs seen ≤ tot sz fs
  | [] => ⟨Int.le_refl _, Int.le_refl _⟩
  | x :: l => by
    have ih := gsum_bd sz seen l
    simp only [gsum, tot, List.map_cons, List.sum_cons] at ih ⊢
    split <;> omega

theorem mem_ents {fs : List FL} {e : MapEntry} (h : e ∈ (ents fs).toList) : ∃ f ∈ fs, e = f.ent := by
  simp only [ents, List.toList_toArray, List.mem_map] at h
  obtain ⟨f, h1, h2⟩ := h
  exact ⟨f, h1, h2.symm⟩

theorem ret_int {k : IntKind} {a b : Int} (h : a = b) : Ending.returned (.int k a) = .returned (.int k b) := by rw [h]

set_option maxRecDepth 100000 in
theorem used_any (w : World) (b mb : Nat) (cv : Value) (room fuse steps starts : Int) (down : Bool) (fs : List FL) (clock : Nat) (sz : FL → Nat) (hb : Blk w b (dcells mb cv room fuse steps starts down) 76)
    (hm : w.heap[mb]? = some (.map (ents fs) clock)) (hlt : ∀ f ∈ fs, f.born < clock) (hnd : (fs.map (·.born)).Nodup) (hsz : ∀ f ∈ fs, ∃ a c, w.cell? ⟨f.eb, 0, none⟩ = some (.slice a (sz f) c)) (htot : tot sz fs ≤ 1000000000) :
    Calls Tryz.prog 112 #[.pointer (some ⟨b, 0, none⟩)] w fun e w' => e = .returned (.int .i64 (tot sz fs)) ∧ w.grownBy w' none := by
  have h0 := hb.cell 0
  simp at h0
  have hblt := hb.lt
  have hmlt := (Array.getElem?_eq_some_iff.1 hm).1
  have hrg := run_range_map (P := Tryz.prog) w 73 9 120 mb (ents fs) clock Tryz.underlying73 hm
  have hold : ∀ x ∈ (ents fs).toList, x.born < clock := fun x hx => by obtain ⟨f, hf, rfl⟩ := mem_ents hx; exact hlt f hf
  have hnd' : ((ents fs).toList.map (·.born)).Nodup := by simpa [ents, Function.comp_def] using hnd
  have HS : Hid (∀ f ∈ fs, ∃ a c, w.cell? ⟨f.eb, 0, none⟩ = some (.slice a (sz f) c)) := hsz
  have HM : Hid (w.heap[mb]? = some (.map (ents fs) clock)) := hm
  have HL : Hid (∀ f ∈ fs, f.born < clock) := hlt
  have HO : Hid (∀ x ∈ (ents fs).toList, x.born < clock) := hold
  clear hsz hm hlt hold hb
  go_enter Tryz.func112, Tryz.ntmps112
  go_wp2
  go_loopw [3] (fun s wr => ∃ (seen : Array Nat), wr.heap[w.heap.size]? = some (.mapIter (some mb) clock seen clock) ∧ w.grownBy wr none ∧ s = .int .i64 (gsum sz fs seen)) (fun _ wr => (leftOf (ents fs) (wr.iterSeen w.heap.size)).size)
  case atStart => exact ⟨#[], alloc_new _ _, World.grownBy_alloc _ _ _, by rw [gsum_none]⟩
  case round =>
    obtain ⟨seen, hit, hgr, rfl⟩ := hrel
    have hm1 := (hgr.block mb hmlt (by simp)).trans HM.out
    have hbd := gsum_bd sz seen fs
    have law := run_next_at (P := Tryz.prog) wr 0 w.heap.size mb clock clock seen (ents fs) clock hit hm1 HO.out (Nat.le_refl _)
    rcases law with ⟨h00, hrun⟩ | ⟨e, he, w1, hw1, hrun⟩
    · have hnx : ∀ ty, (Instr.next (.pointer (some ⟨w.heap.size, 0, none⟩)) false ty).run Tryz.prog wr = _ := fun _ => hrun
      have hall : gsum sz fs seen = tot sz fs := gsum_full sz seen fs (fun x hx => all_seen (ents fs) seen h00 x.ent (by simp only [ents, List.toList_toArray, List.mem_map]; exact ⟨x, hx, rfl⟩))
      have HA : Hid (gsum sz fs seen = tot sz fs) := hall
      clear hall hrun hit hm1 hrg
      go_wp2
      go_ret
      exact ⟨ret_int HA.out, hgr⟩
    · obtain ⟨f, hf, rfl⟩ := mem_ents (mem_left he).1
      have hseen : seen.contains f.born = false := (mem_left he).2
      have hgr1 : w.grownBy (setBlock w1 w.heap.size (.mapIter (some mb) clock (seen.push f.born) clock)) none := by
        rcases hw1 with rfl | rfl <;> exact ⟨hgr.os, hgr.tape, hgr.output, by simp [setBlock]; exact hgr.size, fun k hk _ => (setBlock_other _ (by omega)).trans (hgr.block k hk (by simp))⟩
      have hit1 : (setBlock w1 w.heap.size (.mapIter (some mb) clock (seen.push f.born) clock)).heap[w.heap.size]? = some (.mapIter (some mb) clock (seen.push f.born) clock) := by
        rcases hw1 with rfl | rfl <;> exact setBlock_same hit
      generalize setBlock w1 w.heap.size (.mapIter (some mb) clock (seen.push f.born) clock) = W at hgr1 hit1 hrun
      have hnx : ∀ ty, (Instr.next (.pointer (some ⟨w.heap.size, 0, none⟩)) false ty).run Tryz.prog wr = _ := fun _ => hrun
      have hm2 := (hgr1.block mb hmlt (by simp)).trans HM.out
      have hen := run_entry_at (P := Tryz.prog) W w.heap.size mb clock seen (ents fs) clock f.ent hit1 hm2 (mem_left he).1 hnd'
      obtain ⟨fa, fc, hfc⟩ := HS.out f hf
      have hfc' := hgr1.cell hfc (by simp)
      have hps := gsum_push sz seen f hseen fs hnd hf
      have hbd2 := gsum_bd sz (seen.push f.born) fs
      rw [hps] at hbd2
      have HP : Hid (gsum sz fs (seen.push f.born) = gsum sz fs seen + sz f) := hps
      have HI : Hid (W.heap[w.heap.size]? = some (.mapIter (some mb) clock (seen.push f.born) clock)) := hit1
      have HI0 : Hid (wr.heap[w.heap.size]? = some (.mapIter (some mb) clock seen clock)) := hit
      have HSH : Hid ((leftOf (ents fs) (seen.push f.born)).size < (leftOf (ents fs) seen).size) := left_shrinks (ents fs) seen f.ent he
      clear hps hit1 hit hrun hm1 hm2 he hfc hrg hseen
      go_wp2_with (go_at_call 79; refine (size_of W f.eb 0 fa (sz f) fc hfc').mono ?_; rintro e w2 ⟨rfl, rfl⟩)
      go_roundw
      case rel => exact ⟨seen.push f.born, HI.out, hgr1, by rw [HP.out]⟩
      case measure => simp only [World.iterSeen, HI.out, HI0.out]; exact HSH.out

end Go.Proofs.YteocmhbllckpjaaGreat
