/- A file without bytes is forgotten. -/
/- What is seen of a file is kept. -/
/- Sync on a disk that is up; Write of no bytes. -/
import Derived.Test.YteocmhbllckpjaaGreatV5
import Derived.Test.YteocmhbllckpjaaGreatO
import Derived.Test.YteocmhbllckpjaaGreatT1
namespace Go.Proofs.YteocmhbllckpjaaGreat
open Go.ChangeShapes Go.WideShapes Go.ChangeAt Go.RowKit
open Go.ChangeMaps (setBlock)
set_option linter.unusedVariables false

theorem findNow_at (nm : ByteArray) : ∀ (fs : List FL) (i : Nat) (f : FL), look fs nm = some f → ∃ j, Instr.findNow .string (.string nm) (fs.map FL.ent) i = some (some (i + j, .pointer (some ⟨f.eb, 0, none⟩))) ∧ fs[j]? = some f
  | [], i, f, h => by simp [look] at h
  | a :: fs, i, f, h => by
    simp only [look, List.find?_cons] at h
    simp only [List.map_cons, Instr.findNow, Instr.sameNow]
    cases hb : (nm == a.name) with
    | true =>
      rw [hb] at h
      cases h
      exact ⟨0, by simp, rfl⟩
    | false =>
      rw [hb] at h
      obtain ⟨j, h1, h2⟩ := findNow_at nm fs (i + 1) f h
      refine ⟨j + 1, ?_, h2⟩
      rw [show i + (j + 1) = i + 1 + j by omega]
      exact h1
theorem erase_filter : ∀ {fs : List FL} (hn : (fs.map (·.born)).Nodup) {j : Nat} {f : FL}, fs[j]? = some f → fs.eraseIdx j = fs.filter (fun x => x.born != f.born)
  | [], _, j, f, h => by simp at h
  | a :: fs, hn, 0, f, h => by
    simp at h
    subst h
    have hn' := List.nodup_cons.1 hn
    simp only [List.eraseIdx_zero, List.tail_cons, List.filter_cons, bne_self_eq_false, Bool.false_eq_true, if_false]
    symm
    rw [List.filter_eq_self]
    intro x hx
    have : x.born ≠ a.born := fun e => hn'.1 (List.mem_map.2 ⟨x, hx, e⟩)
    simpa using this
  | a :: fs, hn, j + 1, f, h => by
    have hn' := List.nodup_cons.1 hn
    simp only [List.getElem?_cons_succ] at h
    have hne : a.born ≠ f.born := fun e => hn'.1 (List.mem_map.2 ⟨f, List.mem_of_getElem? h, e.symm⟩)
    rw [List.eraseIdx_cons_succ, List.filter_cons, if_pos (by simpa using hne), erase_filter hn'.2 h]
theorem map_erase {α β : Type} (f : α → β) : ∀ (l : List α) (j : Nat), (l.map f).eraseIdx j = (l.eraseIdx j).map f
  | [], j => by simp
  | a :: l, 0 => by simp
  | a :: l, j + 1 => by simp [map_erase f l j]
/-- A disk without a file. -/
def without (D : DS) (f : FL) : DS := { D with fs := D.fs.filter (fun x => x.born != f.born) }
theorem del_hit (w : World) (mb : Nat) (fs : List FL) (clock : Nat) (nm : ByteArray) (f : FL) (hm : w.heap[mb]? = some (.map (ents fs) clock)) (hl : look fs nm = some f) (hn : (fs.map (·.born)).Nodup) (ty : TypeId) :
    (Builtin.delete_ #[73, 9] ty #[.map (some mb), .string nm]).run Tryz.prog w = .ok (.tuple #[]) (setBlock w mb (.map (ents (fs.filter fun x => x.born != f.born)) clock)) := by
  obtain ⟨j, h, hj⟩ := findNow_at nm fs 0 f hl
  rw [Nat.zero_add] at h
  have he : (ents fs).eraseIdxIfInBounds j = ents (fs.filter fun x => x.born != f.born) := by
    have hlt : j < fs.length := (List.getElem?_eq_some_iff.1 hj).1
    rw [← erase_filter hn hj]
    simp only [ents]
    rw [List.eraseIdxIfInBounds_toArray, map_erase]
  have h' : Instr.findNow .string (.string nm) (ents fs).toList 0 = some (some (j, .pointer (some ⟨f.eb, 0, none⟩))) := by simpa [ents] using h
  simp [Builtin.delete_, run_underlying Tryz.underlying73, MapKept.run_getObj_map hm, ckey w nm, MapKept.run_findKey (d := .string) Tryz.underlying9 h', Result.andThen, MapKept.run_setObj_map (P := Tryz.prog) (w := w) _ hm, setBlock, he]
theorem del_miss (w : World) (mb : Nat) (fs : List FL) (clock : Nat) (nm : ByteArray) (hm : w.heap[mb]? = some (.map (ents fs) clock)) (hl : look fs nm = none) (ty : TypeId) :
    (Builtin.delete_ #[73, 9] ty #[.map (some mb), .string nm]).run Tryz.prog w = .ok (.tuple #[]) (setBlock w mb (.map (ents fs) clock)) := by
  have h := findNow_ents nm fs 0
  rw [hl] at h
  simp [Builtin.delete_, run_underlying Tryz.underlying73, MapKept.run_getObj_map hm, ckey w nm, MapKept.run_findKey (d := .string) Tryz.underlying9 (show _ = some none from h), Result.andThen, MapKept.run_setObj_map (P := Tryz.prog) (w := w) _ hm, setBlock, ents]
/-- A disk that forgets a file without bytes. -/
def forgetD (D : DS) (nm : ByteArray) : DS := if flen D nm = 0 then (match look D.fs nm with | some f => without D f | none => D) else D

set_option maxHeartbeats 1000000 in
theorem forget_any (w : World) (base b : Nat) (D : DS) (who : Nat → Nat) (R : Rep w base b D who) (nm : ByteArray) :
    Calls Tryz.prog 55 #[.pointer (some ⟨b, 0, none⟩), .string nm] w fun e w' => e = .returned (.tuple #[]) ∧ Only [D.mb] w w' ∧ Rep w' base b (forgetD D nm) who := by
  have S := seen_any w b D.mb D.cv D.room D.fuse D.steps D.starts D.down D.fs D.clock nm (fun f => f.seen.length) R.blk R.map R.sizes
  have hfl : ((look D.fs nm).map fun f => f.seen.length).getD 0 = flen D nm := rfl
  rw [hfl] at S
  have HR := hide R
  have HS := hide S
  clear hfl R S
  by_cases h0 : flen D nm = 0
  · have HC : Hid (∀ V, w.grownBy V none → V.cell? ⟨b, 0, none⟩ = some (.map (some D.mb))) := fun V hV => ((HR.out.keep hV).blk.cell 0).trans rfl
    cases hl : look D.fs nm with
    | some f =>
      have HD : Hid (∀ V, w.grownBy V none → ∀ ty, (Builtin.delete_ #[73, 9] ty #[.map (some D.mb), .string nm]).run Tryz.prog V = .ok (.tuple #[]) (setBlock V D.mb (.map (ents (D.fs.filter fun x => x.born != f.born)) D.clock))) := fun V hV ty => del_hit V D.mb D.fs D.clock nm f (HR.out.keep hV).map hl HR.out.nodup ty
      go_enter Tryz.func55, Tryz.ntmps55
      go_wp2_with (first
        | (go_at_call 39; refine Calls.mono HS.out ?_; rintro e w1 ⟨eb, a, c, rfl, hc, hg⟩; have HG := hide hg; have hmc := HC.out w1 hg; have hdl := HD.out w1 hg; clear hg)
        | (go_at_call 79; refine (size_of w1 eb 0 a _ c hc).mono ?_; rintro e w2 ⟨rfl, rfl⟩; rw [h0]))
      go_end0
      have hO : Only [D.mb] w1 (setBlock w1 D.mb (.map (ents (D.fs.filter fun x => x.born != f.born)) D.clock)) := Only.setBlock _ _ _
      have hO2 : Only [D.mb] w w1 := (Only.of_grown HG.out).mono (by simp)
      have R1 := HR.out.keep HG.out
      refine ⟨rfl, hO2.trans hO, ?_⟩
      unfold forgetD
      rw [if_pos h0, hl]
      exact R1.delF _ (fun x hx => (List.mem_filter.1 hx).1) (List.Nodup.sublist ((List.filter_sublist).map _) R1.nodup) hO (setBlock_same R1.map)
    | none =>
      have HD : Hid (∀ V, w.grownBy V none → ∀ ty, (Builtin.delete_ #[73, 9] ty #[.map (some D.mb), .string nm]).run Tryz.prog V = .ok (.tuple #[]) (setBlock V D.mb (.map (ents D.fs) D.clock))) := fun V hV ty => del_miss V D.mb D.fs D.clock nm (HR.out.keep hV).map hl ty
      go_enter Tryz.func55, Tryz.ntmps55
      go_wp2_with (first
        | (go_at_call 39; refine Calls.mono HS.out ?_; rintro e w1 ⟨eb, a, c, rfl, hc, hg⟩; have HG := hide hg; have hmc := HC.out w1 hg; have hdl := HD.out w1 hg; clear hg)
        | (go_at_call 79; refine (size_of w1 eb 0 a _ c hc).mono ?_; rintro e w2 ⟨rfl, rfl⟩; rw [h0]))
      go_end0
      have hO : Only [D.mb] w1 (setBlock w1 D.mb (.map (ents D.fs) D.clock)) := Only.setBlock _ _ _
      have hO2 : Only [D.mb] w w1 := (Only.of_grown HG.out).mono (by simp)
      have R1 := HR.out.keep HG.out
      refine ⟨rfl, hO2.trans hO, ?_⟩
      unfold forgetD
      rw [if_pos h0, hl]
      exact R1.delF D.fs (fun x hx => hx) R1.nodup hO (setBlock_same R1.map)
  · have hf : ¬ (flen D nm : Int) = 0 := by omega
    go_enter Tryz.func55, Tryz.ntmps55
    go_wp2_with (first
      | (go_at_call 39; refine Calls.mono HS.out ?_; rintro e w1 ⟨eb, a, c, rfl, hc, hg⟩; have HG := hide hg; clear hg)
      | (go_at_call 79; refine (size_of w1 eb 0 a _ c hc).mono ?_; rintro e w2 ⟨rfl, rfl⟩))
    go_end0
    refine ⟨rfl, (Only.of_grown HG.out).mono (by simp), ?_⟩
    unfold forgetD
    rw [if_neg h0]
    exact HR.out.keep HG.out
end Go.Proofs.YteocmhbllckpjaaGreat

namespace Go.Proofs.YteocmhbllckpjaaGreat
open Go.ChangeShapes Go.WideShapes Go.ChangeAt Go.RowKit
open Go.ChangeMaps (setBlock)
set_option linter.unusedVariables false

theorem isN_eq {nm : ByteArray} {c : Ch} (h : isN nm c = true) : c.name = nm := by
  unfold isN at h
  have h1 := eq_of_beq h
  rw [ByteArray.toList_eq, ByteArray.toList_eq] at h1
  exact bytes_inj h1
/-- What keeps a disk sane. -/
structure Sane (D : DS) : Prop where
  sec : ∀ c ∈ D.chs, c.sector = -1 ∨ (0 ≤ c.sector ∧ c.sector ≤ 16384)
  siz : ∀ c ∈ D.chs, 0 ≤ c.size ∧ c.size ≤ 1048576
  kl : ∀ f ∈ D.fs, f.kept.length ≤ 1048576
  nm : ∀ c ∈ D.chs, ∃ f, look D.fs c.name = some f
  few : D.chs.length ≤ 1000000000
theorem length_rsz (l : List UInt8) (n : Nat) : (rsz l n).length = n := by
  unfold rsz
  split
  · rw [List.length_take]; omega
  · rw [List.length_append, List.length_replicate]; omega
theorem length_putL (l : List UInt8) (a : Nat) (d : List UInt8) : (putL l a d).length = l.length := by
  unfold putL
  split
  · rw [length_splice _ _ _ (by rw [List.length_take]; omega)]
  · rfl
theorem length_takeL {l : List UInt8} {c : Ch} {k : Int} (hl : l.length ≤ 1048576) (hs : 0 ≤ c.size ∧ c.size ≤ 1048576) : (takeL l c k).length ≤ 1048576 := by
  unfold takeL
  split
  · exact hl
  · split
    · rw [length_rsz]; omega
    · rw [length_putL]; exact hl
/-- What is kept behind all changes of a file. -/
def keepF (nm : ByteArray) (l : List UInt8) (chs : List Ch) : List UInt8 := chs.foldl (fun l c => if isN nm c then takeL l c 1 else l) l
theorem length_keepF {nm : ByteArray} : ∀ {chs : List Ch} {l : List UInt8}, (∀ c ∈ chs, 0 ≤ c.size ∧ c.size ≤ 1048576) → l.length ≤ 1048576 → (keepF nm l chs).length ≤ 1048576
  | [], l, _, hl => hl
  | c :: r, l, h, hl => by
    show (keepF nm (if isN nm c then takeL l c 1 else l) r).length ≤ 1048576
    refine length_keepF (fun d hd => h d (by simp [hd])) ?_
    split
    · exact length_takeL hl (h c (by simp))
    · exact hl
theorem keepF_succ {nm : ByteArray} {l : List UInt8} {chs : List Ch} {j : Nat} {c : Ch} (h : chs[j]? = some c) : keepF nm l (chs.take (j + 1)) = if isN nm c then takeL (keepF nm l (chs.take j)) c 1 else keepF nm l (chs.take j) := by
  unfold keepF
  rw [List.take_add_one, h, List.foldl_append]
  rfl
/-- A file's kept bytes turned. -/
def takeD (D : DS) (f : FL) (v : Value) (l : List UInt8) : DS := { D with fs := upd D.fs f.born fun x => { x with kv := v, kept := l } }
theorem Blk.same {w : World} {b : Nat} {c c' : Array Value} {t t' : TypeId} (h : Blk w b c t) (h' : w.heap[b]? = some (.cells c' t' (0, 0))) : t = t' := by
  have e := Option.some.inj ((show w.heap[b]? = _ from h).symm.trans h')
  injection e
theorem Rep.notIn {w : World} {base b : Nat} {D : DS} {who : Nat → Nat} (R : Rep w base b D who) {f : FL} (hf : f ∈ D.fs) {k : Nat} {c : Array Value} {t : TypeId} (h : Blk w k c t) (h1 : t ≠ 119) (h2 : t ≠ 5) : k ∉ f.eb :: f.kv.ownBlock.toList := fun hm => by
  rcases List.mem_cons.1 hm with rfl | hm
  · exact h1 (h.same (R.ent f hf))
  · have hk : f.kv.ownBlock = some k := by simpa using hm
    rcases (R.okv f hf).2 with ⟨hv, _⟩ | ⟨g, cap, cur, hv, _, hg, _⟩
    · rw [hv] at hk; cases hk
    · rw [hv] at hk
      have hk' : g = k := by simpa [Value.ownBlock] using hk
      subst hk'
      exact h2 (h.same hg)
theorem Rep.mbNot {w : World} {base b : Nat} {D : DS} {who : Nat → Nat} (R : Rep w base b D who) {f : FL} (hf : f ∈ D.fs) : D.mb ∉ f.eb :: f.kv.ownBlock.toList := fun hm => by
  have h0 := R.wm
  rcases List.mem_cons.1 hm with h | hm
  · rw [h, R.we f hf] at h0; omega
  · rw [R.wk f hf D.mb (by simpa using hm)] at h0; omega
theorem Rep.fresh {w W : World} {base b : Nat} {D : DS} {who : Nat → Nat} (R : Rep w base b D who) {o : Obj} (h : Only [w.heap.size] (w.alloc o) W) : Rep W base b D who := by
  have R1 := R.alloc o
  have hlt : ∀ k, k < w.heap.size → k ∉ [w.heap.size] := fun k hk he => by simp at he; omega
  exact R1.only h (hlt _ R.blk.lt) (hlt _ R.mlt) (fun g hg => hlt _ (own_lt R.ochs g hg).2) (fun f hf => hlt _ (R.ent f hf).lt) (fun f hf g hg => hlt _ (own_lt (R.osv f hf) g hg).2) (fun f hf g hg => hlt _ (own_lt (R.okv f hf) g hg).2)
theorem fresh_below {w W : World} {base : Nat} {o : Obj} (hb : base ≤ w.heap.size) (h : Only [w.heap.size] (w.alloc o) W) : Below base w W :=
  (below_alloc w o hb).trans (h.below (by simp; omega) (fun j hj => by simp at hj; omega))
theorem fresh_blk {w W : World} {o : Obj} {k : Nat} {c : Array Value} {t : TypeId} (hk : Blk w k c t) (h : Only [w.heap.size] (w.alloc o) W) : Blk W k c t :=
  h.blk ((Below.heap_alloc _ _ _ hk.lt).trans hk) (by have := hk.lt; simp; omega)
/-- The row of changes has turned, as it was or in part. -/
theorem Rep.setC2 {w w' : World} {base b : Nat} {D : DS} {who : Nat → Nat} (R : Rep w base b D who) (v' : Value) (hv : ∀ g, v'.ownBlock = some g → D.cv.ownBlock = some g) (h' : Only (b :: D.cv.ownBlock.toList) w w') (chs : List Ch)
    (hb : Blk w' b { D with cv := v', chs := chs }.cells 76) (ho : w'.ownsRow base 112 67 v' chs.length (chcells chs)) (hc : ∀ c ∈ chs, c.data.length = 64) :
    Rep w' base b { D with cv := v', chs := chs } who := by
  have nS : ∀ k, who k ≠ 0 → who k ≠ 2 → k ∉ b :: D.cv.ownBlock.toList := fun k h0 h2 hm => by
    rcases List.mem_cons.1 hm with rfl | hm
    · exact h0 R.wb
    · exact h2 (R.wc k (by simpa using hm))
  exact
    { blk := hb, map := h'.blk R.map (nS _ (by rw [R.wm]; omega) (by rw [R.wm]; omega)), born := R.born, nodup := R.nodup
      ent := fun f hf => h'.blk (R.ent f hf) (nS _ (by rw [R.we f hf]; omega) (by rw [R.we f hf]; omega))
      osv := fun f hf => ownsRow_only (R.osv f hf) h' (fun k hk => nS _ (by rw [R.ws f hf k hk]; omega) (by rw [R.ws f hf k hk]; omega))
      okv := fun f hf => ownsRow_only (R.okv f hf) h' (fun k hk => nS _ (by rw [R.wk f hf k hk]; omega) (by rw [R.wk f hf k hk]; omega))
      ochs := ho, c64 := hc, lowb := R.lowb, lowm := R.lowm, lowe := R.lowe, wb := R.wb, wm := R.wm, wc := fun g hg => R.wc g (hv g hg), we := R.we, ws := R.ws, wk := R.wk }
theorem others_64 {nm : ByteArray} {chs : List Ch} (h : ∀ c ∈ chs, c.data.length = 64) : ∀ c ∈ others nm chs, c.data.length = 64 := fun c hc => h c (List.mem_filter.1 hc).1
/-- Behind slices.DeleteFunc and the store of its answer. -/
theorem Rep.cutC {w w4 : World} {base b : Nat} {D : DS} {who : Nat → Nat} (R : Rep w base b D who) (nm : ByteArray) (v' : Value) (ho : w4.ownsRow base 112 67 v' (others nm D.chs).length (chcells (others nm D.chs))) (hv : ∀ g, v'.ownBlock = some g → D.cv.ownBlock = some g) (hg : w.grownBy w4 D.cv.ownBlock) :
    Rep (w4.setCell ⟨b, 1, none⟩ v') base b { D with cv := v', chs := others nm D.chs } who ∧ Below base w (w4.setCell ⟨b, 1, none⟩ v') := by
  have hO : Only (b :: D.cv.ownBlock.toList) w (w4.setCell ⟨b, 1, none⟩ v') := ((Only.of_grown hg).mono (fun j hj => List.mem_cons_of_mem _ hj)).trans ((Only.setCell _ _ _).mono (by simp))
  have hbc : ∀ g, D.cv.ownBlock = some g → g ≠ b := fun g hg e => by have h1 := R.wc g hg; have h2 := R.wb; rw [e] at h1; omega
  have hB : Blk w4 b D.cells 76 := (Only.of_grown hg).blk R.blk (fun hm => hbc b (by simpa using hm) rfl)
  refine ⟨R.setC2 v' hv hO _ ?_ ?_ (others_64 R.c64), hO.below R.base_le (fun j hj => ?_)⟩
  · exact hB.set 1 v'
  · exact ownsRow_only ho (Only.setCell w4 ⟨b, 1, none⟩ v') (fun k hk => by have := hbc k (hv k hk); simp; exact this)
  · rcases List.mem_cons.1 hj with rfl | hj
    · exact R.lowb
    · exact (own_lt R.ochs j (by simpa using hj)).1

set_option maxHeartbeats 4000000 in
set_option maxRecDepth 10000 in
theorem keep_hit (w : World) (base b : Nat) (D : DS) (who : Nat → Nat) (R : Rep w base b D who) (S : Sane D) (nm : ByteArray) (f : FL) (hlk : look D.fs nm = some f) :
    Calls Tryz.prog 141 #[.pointer (some ⟨b, 0, none⟩), .string nm] w fun e w' => e = .returned (.tuple #[]) ∧ Below base w w' ∧ ∃ kv cv who', Rep w' base b (forgetD { takeD D f kv (keepF nm f.kept D.chs) with cv := cv, chs := others nm D.chs } nm) who' := by
  have hB0 := below_alloc w (.cells #[.string nm] 9) R.base_le
  have hBn : Blk (w.alloc (.cells #[.string nm] 9)) w.heap.size #[.string nm] 9 := alloc_new _ _
  obtain ⟨a, cap, hcv⟩ := ownsRow_form R.ochs
  have h1c : (w.alloc (.cells #[.string nm] 9)).cell? ⟨b, 1, none⟩ = some (.slice a D.chs.length cap) := by rw [(R.alloc _).blk.cell 1, ← hcv]; rfl
  have HR0 := hide (R.alloc (.cells #[.string nm] 9))
  have HB0 := hide hB0
  have HBn := hide hBn
  have HCV := hide hcv
  have HS := hide S
  have H64 := hide R.c64
  obtain ⟨d75, hu75, hr75⟩ := u75
  have hf : f ∈ D.fs := List.mem_of_find?_eq_some hlk
  have HF := hide hf
  have HLk0 := hide hlk
  have HNd := hide R.nodup
  clear hf hlk
  clear R S hB0 hBn hcv
  go_enter Tryz.func141, Tryz.ntmps141
  go_upto_region 2 with fail
  go_loopw [11] (fun jv wr => ∃ (j : Nat) (kv : Value) (whoj : Nat → Nat), j ≤ D.chs.length ∧ jv = .int .i64 (j : Int) ∧ Rep wr base b (takeD D f kv (keepF nm f.kept (D.chs.take j))) whoj ∧ Blk wr w.heap.size #[.string nm] 9 ∧ Below base w wr) (fun jv _ => D.chs.length - (intOf jv).toNat)
  case atStart =>
    refine ⟨0, f.kv, who, Nat.zero_le _, rfl, ?_, HBn.out, HB0.out⟩
    have e : takeD D f f.kv (keepF nm f.kept (D.chs.take 0)) = D := by
      unfold takeD
      rw [upd_self HNd.out HF.out _ rfl]
    rw [e]
    exact HR0.out
  case round =>
    obtain ⟨j, kv, whoj, hj, rfl, hRj, hBj, hbj⟩ := hrel
    have HRj := hide hRj
    have HBj := hide hBj
    have Hbj := hide hbj
    clear hRj hBj hbj
    by_cases hlt : j < D.chs.length
    · obtain ⟨c, hc⟩ : ∃ c, D.chs[j]? = some c := ⟨D.chs[j], List.getElem?_eq_getElem hlt⟩
      have hcm := List.mem_of_getElem? hc
      have H6 := hide (H64.out c hcm)
      have HC := hide hc
      have HCm := hide hcm
      have hg : ∃ g, a = some ⟨g, 0, none⟩ ∧ wr.rangeAt g (j * 67) c.cells := by
        have ho : wr.ownsRow base 112 67 D.cv D.chs.length (chcells D.chs) := HRj.out.ochs
        rw [HCV.out] at ho
        rcases ho.2 with ⟨hv, hz⟩ | ⟨g, cap', cur, hv, _⟩
        · omega
        · cases hv
          exact ⟨g, rfl, chs_range ho H64.out hc⟩
      obtain ⟨g, rfl, hrg⟩ := hg
      have HRg := hide hrg
      have HZ := hide (show (wr.alloc (.cells Tryz.zeroCells112 112)).heap[wr.heap.size]? = some (.cells Tryz.zeroCells112 112 (0, 0)) from alloc_new _ _)
      have l1 : (j : Int) < (D.chs.length : Int) := by omega
      have l0 : (0 : Int) ≤ (j : Int) := by omega
      have hw1 : IntKind.i64.wrap ((j : Int) + 1) = (j : Int) + 1 := by rw [IntKind.wrap_i64]; have := HS.out.few; omega
      have HFl : Hid (∀ W2, Blk W2 wr.heap.size c.cells.toArray 112 → W2.cell? ⟨wr.heap.size, 0, none⟩ = some (.string c.name)) := fun W2 h => (h.cell 0).trans (chg_get c).2.2.1
      clear hc hcm hrg
      cases hb : isN nm c with
      | false =>
        have hne : (c.name.toList == nm.toList) = false := hb
        go_wp2_with (first
          | (refine wp_loadC H6.out HRg.out _ (by rfl) (by rfl) (by rfl) ?_)
          | (refine wp_storeC H6.out zeros75_size HZ.out _ _ (by rfl) (by rfl) (by rfl) (by rfl) ?_; intro W2 hB2 hO2; have HB2 := hide hB2; have HO2 := hide hO2; have hnm := HFl.out W2 hB2; have hnb : W2.cell? ⟨w.heap.size, 0, none⟩ = some (.string nm) := (Blk.cell (fresh_blk HBj.out hO2) 0).trans rfl; clear hB2 hO2))
        refine ⟨⟨j + 1, kv, whoj, hlt, rfl, (by rw [keepF_succ HC.out, hb]; exact HRj.out.fresh HO2.out), fresh_blk HBj.out HO2.out, Hbj.out.trans (fresh_below HRj.out.base_le HO2.out)⟩, ?_⟩
        simp only [intOf]; omega

      | true =>
        have hne : (c.name.toList == nm.toList) = true := hb
        go_upto_region 5 with (first
          | (refine wp_loadC H6.out HRg.out _ (by rfl) (by rfl) (by rfl) ?_)
          | (refine wp_storeC H6.out zeros75_size HZ.out _ _ (by rfl) (by rfl) (by rfl) (by rfl) ?_; intro W2 hB2 hO2; have HB2 := hide hB2; have HO2 := hide hO2; have hnm := HFl.out W2 hB2; have hnb : W2.cell? ⟨w.heap.size, 0, none⟩ = some (.string nm) := (Blk.cell (fresh_blk HBj.out hO2) 0).trans rfl; clear hB2 hO2))
        have HR2 := hide (HRj.out.fresh HO2.out)
        have HBn2 := hide (fresh_blk HBj.out HO2.out)
        have hfj : ({ f with kv := kv, kept := keepF nm f.kept (D.chs.take j) } : FL) ∈ (takeD D f kv (keepF nm f.kept (D.chs.take j))).fs := mem_upd_self HF.out (fun x => { x with kv := kv, kept := keepF nm f.kept (D.chs.take j) })
        have HLk : Hid (look (takeD D f kv (keepF nm f.kept (D.chs.take j))).fs nm = some { f with kv := kv, kept := keepF nm f.kept (D.chs.take j) }) := look_upd HNd.out HLk0.out (fun x => { x with kv := kv, kept := keepF nm f.kept (D.chs.take j) }) (fun _ => rfl)
        have HTk : Hid (∀ V, Rep V base b (takeD D f kv (keepF nm f.kept (D.chs.take j))) whoj → Calls Tryz.prog 53 #[.pointer (some ⟨f.eb, 1, none⟩), .agg c.cells.toArray, .int .i64 1] V fun e w' => e = .returned (.tuple #[]) ∧ Only (f.eb :: kv.ownBlock.toList) V w' ∧ ∃ v' who', Rep w' base b (takeD D f v' (keepF nm f.kept (D.chs.take (j + 1)))) who') := fun V hV => by
          have hk0 : (keepF nm f.kept (D.chs.take j)).length ≤ 1048576 := length_keepF (fun d hd => HS.out.siz d (List.mem_of_mem_take hd)) (HS.out.kl f HF.out)
          refine (take_any V base b _ whoj hV _ hfj c H6.out (HS.out.sec c HCm.out) (HS.out.siz c HCm.out) 1 (by decide) hk0).mono ?_
          rintro e w' ⟨h1, h2, v', who', h3⟩
          refine ⟨h1, h2, v', who', ?_⟩
          rw [keepF_succ HC.out, hb]
          unfold takeD at h3 ⊢
          have e2 := upd_upd D.fs f.born (fun x => { x with kv := kv, kept := keepF nm f.kept (D.chs.take j) }) (fun x => { x with kv := v', kept := takeL (keepF nm f.kept (D.chs.take j)) c 1 }) (fun _ => rfl)
          dsimp only at h3
          rw [e2] at h3
          exact h3
        have HSt : Hid (∀ V, Only (f.eb :: kv.ownBlock.toList) W2.drew V → V.cell? ⟨b, 0, none⟩ = some (.map (some D.mb)) ∧ V.cell? ⟨w.heap.size, 0, none⟩ = some (.string nm) ∧ V.heap[D.mb]? = some (.map (ents (takeD D f kv (keepF nm f.kept (D.chs.take j))).fs) D.clock) ∧ V.rangeAt wr.heap.size 0 c.cells) := fun V hV => by
          have R2 := HR2.out.drew
          have n1 := R2.notIn hfj R2.blk (by decide) (by decide)
          have n2 := R2.notIn hfj (show Blk W2.drew w.heap.size #[.string nm] 9 from HBn2.out) (by decide) (by decide)
          have n3 := R2.mbNot hfj
          have n4 := R2.notIn hfj (show Blk W2.drew wr.heap.size c.cells.toArray 112 from HB2.out) (by decide) (by decide)
          have b1 : Blk V b _ 76 := hV.blk R2.blk n1
          have b2 : Blk V w.heap.size #[.string nm] 9 := hV.blk (show W2.drew.heap[w.heap.size]? = _ from HBn2.out) n2
          have b4 : Blk V wr.heap.size c.cells.toArray 112 := hV.blk (show W2.drew.heap[wr.heap.size]? = _ from HB2.out) n4
          exact ⟨(b1.cell 0).trans rfl, (b2.cell 0).trans rfl, hV.blk R2.map n3, b4.range⟩
        refine wp_region_held_drew (S := fun V => V.cell? ⟨b, 0, none⟩ = some (.map (some D.mb)) ∧ V.cell? ⟨w.heap.size, 0, none⟩ = some (.string nm) ∧ V.heap[D.mb]? = some (.map (ents (takeD D f kv (keepF nm f.kept (D.chs.take j))).fs) D.clock) ∧ V.rangeAt wr.heap.size 0 c.cells) (by kernel_rfl) (HSt.out _ (Only.refl _ _)) ?_
        intro hHeld
        refine wpAnyH_take (i := 0) (v := .pointer (some ⟨b, 0, none⟩)) rfl (by kernel_rfl) (by kernel_rfl) (by kernel_rfl) (fun _ _ _ h => h) (Or.inl ⟨by rfl, fun V hV => by (obtain ⟨f1, f2, f3, f4⟩ := hV; go_simp)⟩) hHeld ?_
        try simp only [Act.put, List.getElem_toArray, List.getElem_cons_zero, List.setIfInBounds_toArray, List.set_cons_zero, List.set_cons_succ]
        refine wpAnyH_take (i := 1) (v := .pointer (some ⟨b, 0, none⟩)) rfl (by kernel_rfl) (by kernel_rfl) (by kernel_rfl) (fun _ _ _ h => h) (Or.inl ⟨by rfl, fun V hV => by (obtain ⟨f1, f2, f3, f4⟩ := hV; go_simp)⟩) hHeld ?_
        try simp only [Act.put, List.getElem_toArray, List.getElem_cons_succ, List.getElem_cons_zero, List.setIfInBounds_toArray, List.set_cons_zero, List.set_cons_succ]
        refine wpAnyH_take (i := 2) (v := .pointer (some ⟨b, 0, none⟩)) rfl (by kernel_rfl) (by kernel_rfl) (by kernel_rfl) (fun _ _ _ h => h) (Or.inl ⟨by rfl, fun V hV => by (obtain ⟨f1, f2, f3, f4⟩ := hV; go_simp)⟩) hHeld ?_
        try simp only [Act.put, List.getElem_toArray, List.getElem_cons_succ, List.getElem_cons_zero, List.setIfInBounds_toArray, List.set_cons_zero, List.set_cons_succ]
        refine wpAnyH_take (i := 3) (v := .map (some D.mb)) rfl (by kernel_rfl) (by kernel_rfl) (by kernel_rfl) (fun _ _ _ h => h) (Or.inl ⟨by rfl, fun V hV => by (obtain ⟨f1, f2, f3, f4⟩ := hV; go_simp)⟩) hHeld ?_
        try simp only [Act.put, List.getElem_toArray, List.getElem_cons_succ, List.getElem_cons_zero, List.setIfInBounds_toArray, List.set_cons_zero, List.set_cons_succ]
        refine wpAnyH_take (i := 4) (v := .string nm) rfl (by kernel_rfl) (by kernel_rfl) (by kernel_rfl) (fun _ _ _ h => h) (Or.inl ⟨by rfl, fun V hV => by (obtain ⟨f1, f2, f3, f4⟩ := hV; go_simp)⟩) hHeld ?_
        try simp only [Act.put, List.getElem_toArray, List.getElem_cons_succ, List.getElem_cons_zero, List.setIfInBounds_toArray, List.set_cons_zero, List.set_cons_succ]
        refine wpAnyH_take (i := 5) (v := .pointer (some ⟨f.eb, 0, none⟩)) rfl (by kernel_rfl) (by kernel_rfl) (by kernel_rfl) (fun _ _ _ h => h) (Or.inl ⟨by rfl, fun V hV => by (obtain ⟨f1, f2, f3, f4⟩ := hV; have hlk := look_run V D.mb _ D.clock nm f3; rw [HLk.out] at hlk; simp only [Option.map_some] at hlk; go_simp)⟩) hHeld ?_
        try simp only [Act.put, List.getElem_toArray, List.getElem_cons_succ, List.getElem_cons_zero, List.setIfInBounds_toArray, List.set_cons_zero, List.set_cons_succ]
        refine wpAnyH_take (i := 6) (v := .pointer (some ⟨f.eb, 0, none⟩)) rfl (by kernel_rfl) (by kernel_rfl) (by kernel_rfl) (fun _ _ _ h => h) (Or.inl ⟨by rfl, fun V hV => by (obtain ⟨f1, f2, f3, f4⟩ := hV; go_simp)⟩) hHeld ?_
        try simp only [Act.put, List.getElem_toArray, List.getElem_cons_succ, List.getElem_cons_zero, List.setIfInBounds_toArray, List.set_cons_zero, List.set_cons_succ]
        refine wpAnyH_take (i := 7) (v := .pointer (some ⟨f.eb, 1, none⟩)) rfl (by kernel_rfl) (by kernel_rfl) (by kernel_rfl) (fun _ _ _ h => h) (Or.inl ⟨by rfl, fun V hV => by (obtain ⟨f1, f2, f3, f4⟩ := hV; go_simp)⟩) hHeld ?_
        try simp only [Act.put, List.getElem_toArray, List.getElem_cons_succ, List.getElem_cons_zero, List.setIfInBounds_toArray, List.set_cons_zero, List.set_cons_succ]
        refine wpAnyH_take (i := 8) (v := .agg c.cells.toArray) rfl (by kernel_rfl) (by kernel_rfl) (by kernel_rfl) (fun _ _ _ h => h) (yieldsIf_load_mid (by rfl) _ _ rfl _ _ rfl _ _ (fun V hV => hV.2.2.2) hu75 hr75 (i75 H6.out)) hHeld ?_
        try simp only [Act.put, List.getElem_toArray, List.getElem_cons_succ, List.getElem_cons_zero, List.setIfInBounds_toArray, List.set_cons_zero, List.set_cons_succ]
        refine wpAnyH_ready (rs := [9]) (by kernel_rfl) (by simp) ?_
        refine AllReadyH.cons rfl (fun K hK => ?_) AllReadyH.nil
        go_simp
        go_at_call 53; refine Calls.mono (HTk.out _ HR2.out.drew) ?_; rintro e w3 ⟨rfl, hO3, kv3, who3, R3⟩; have HO3 := hide hO3; have HR3 := hide R3; clear hO3 R3
        go_wp2_with fail
        refine hK.out _ _ (HSt.out w3 HO3.out) (fun hHeld => ?_)
        clear hK K
        refine wpAnyH_done (by kernel_rfl) ?_ _
        go_wp2_with fail
        have R2 := HR2.out.drew
        have hb3 : Below base W2.drew w3 := R2.only_below hfj HO3.out
        have hbn3 : Blk w3 w.heap.size #[.string nm] 9 := HO3.out.blk (show W2.drew.heap[w.heap.size]? = _ from HBn2.out) (R2.notIn hfj (show Blk W2.drew w.heap.size #[.string nm] 9 from HBn2.out) (by decide) (by decide))
        refine ⟨⟨j + 1, kv3, who3, hlt, rfl, HR3.out, hbn3, (Hbj.out.trans (fresh_below HRj.out.base_le HO2.out)).trans ((Below.refl _ W2).drew.trans hb3)⟩, ?_⟩
        simp only [intOf]; omega
    · obtain rfl : j = D.chs.length := by omega
      have HRk : Hid (Rep wr base b (takeD D f kv (keepF nm f.kept D.chs)) whoj) := by
        have := HRj.out
        rw [List.take_of_length_le (Nat.le_refl _)] at this
        exact this
      have h1k : wr.cell? ⟨b, 1, none⟩ = some (.slice a D.chs.length cap) := by rw [HRk.out.blk.cell 1, ← HCV.out]; rfl
      have hnb : wr.cell? ⟨w.heap.size, 0, none⟩ = some (.string nm) := (HBj.out.cell 0).trans rfl
      have HDl : Hid (Calls Tryz.prog 147 #[.slice a D.chs.length cap, .func (.func 148) #[] #[.pointer (some ⟨w.heap.size, 0, none⟩)]] wr fun e w' => ∃ v', e = .returned v' ∧ w'.ownsRow base 112 67 v' (others nm D.chs).length (chcells (others nm D.chs)) ∧ (∀ g, v'.ownBlock = some g → D.cv.ownBlock = some g) ∧ wr.grownBy w' D.cv.ownBlock) := by
        have ho : wr.ownsRow base 112 67 D.cv D.chs.length (chcells D.chs) := HRk.out.ochs
        have := deleteF wr base D.cv D.chs nm w.heap.size ho H64.out HBj.out HS.out.few
        rw [HCV.out] at this ⊢
        exact this
      have HFr : Hid (∀ w4, wr.grownBy w4 D.cv.ownBlock → w4.frozen? ⟨b, 1, none⟩ = false ∧ (∃ v, w4.cell? ⟨b, 1, none⟩ = some v) ∧ w4.cell? ⟨w.heap.size, 0, none⟩ = some (.string nm)) := fun w4 hg => by
        have hbc : ¬ some b = D.cv.ownBlock := fun e => by have h1 := HRk.out.wc b e.symm; have h2 := HRk.out.wb; omega
        have hB : Blk w4 b _ 76 := (hg.block b HRk.out.blk.lt hbc).trans HRk.out.blk
        have hnc : ¬ some w.heap.size = D.cv.ownBlock := fun e => by
          rcases HRk.out.ochs.2 with ⟨hv, _⟩ | ⟨g, cap, cur, hv, _, hg, _⟩
          · have hv' : D.cv = .slice none 0 0 := hv
            rw [hv'] at e; cases e
          · have hv' : D.cv = .slice (some ⟨g, 0, none⟩) D.chs.length cap := hv
            rw [hv'] at e
            have e' : w.heap.size = g := by simpa [Value.ownBlock] using e
            rw [← e'] at hg
            exact absurd (HBj.out.same hg) (by decide)
        have hN : Blk w4 w.heap.size #[.string nm] 9 := (hg.block _ HBj.out.lt hnc).trans HBj.out
        exact ⟨hB.frozen 1, ⟨_, (hB.cell 1).trans rfl⟩, (hN.cell 0).trans rfl⟩
      go_upto_region 8 with (first
        | (go_at_call 147; refine Calls.mono HDl.out ?_; rintro e w4 ⟨v4, rfl, ho4, hv4, hg4⟩; obtain ⟨hf4, ⟨x4, hc4⟩, hn4⟩ := HFr.out w4 hg4; obtain ⟨a4, cap4, hv5⟩ := ownsRow_form ho4; have HV4 := hide hv4; have HO4 := hide ho4; have HG4 := hide hg4; clear hv4 ho4 hg4; subst hv5))
      obtain ⟨R5, hb5⟩ := HRk.out.cutC nm _ HO4.out HV4.out HG4.out
      have hn5 : (w4.setCell ⟨b, 1, none⟩ (.slice a4 (others nm D.chs).length cap4)).cell? ⟨w.heap.size, 0, none⟩ = some (.string nm) := by
        rw [World.cell?_of_block (w := w4) (Below.heap_setCell _ ⟨b, 1, none⟩ _ w.heap.size (fun e => by
          have e' : w.heap.size = b := e
          have h1 := HRk.out.blk
          rw [← e'] at h1
          exact absurd (HBj.out.same h1) (by decide)))]
        exact hn4
      have HFg := hide (forget_any _ base b _ whoj R5 nm)
      have HR5 := hide R5
      have Hb5 := hide hb5
      clear R5 hb5
      go_wp2_with (first
        | (go_at_call 55; refine Calls.mono HFg.out ?_; rintro e w6 ⟨rfl, hO6, hR6⟩; have HO6 := hide hO6; have HR6 := hide hR6; clear hO6 hR6))
      go_end0
      refine ⟨rfl, (Hbj.out.trans Hb5.out).trans (HO6.out.below HR5.out.base_le (fun k hk => by
        have hk' : k = D.mb := by have h9 := List.mem_singleton.1 hk; exact h9
        rw [hk']
        exact HRk.out.lowm)), kv, .slice a4 (others nm D.chs).length cap4, whoj, HR6.out⟩

set_option maxHeartbeats 4000000 in
set_option maxRecDepth 10000 in
theorem keep_miss (w : World) (base b : Nat) (D : DS) (who : Nat → Nat) (R : Rep w base b D who) (S : Sane D) (nm : ByteArray) (hlk : look D.fs nm = none) :
    Calls Tryz.prog 141 #[.pointer (some ⟨b, 0, none⟩), .string nm] w fun e w' => e = .returned (.tuple #[]) ∧ Below base w w' ∧ ∃ cv who', Rep w' base b (forgetD { D with cv := cv, chs := others nm D.chs } nm) who' := by
  have hB0 := below_alloc w (.cells #[.string nm] 9) R.base_le
  have hBn : Blk (w.alloc (.cells #[.string nm] 9)) w.heap.size #[.string nm] 9 := alloc_new _ _
  obtain ⟨a, cap, hcv⟩ := ownsRow_form R.ochs
  have h1c : (w.alloc (.cells #[.string nm] 9)).cell? ⟨b, 1, none⟩ = some (.slice a D.chs.length cap) := by rw [(R.alloc _).blk.cell 1, ← hcv]; rfl
  have HR0 := hide (R.alloc (.cells #[.string nm] 9))
  have HB0 := hide hB0
  have HBn := hide hBn
  have HCV := hide hcv
  have HS := hide S
  have H64 := hide R.c64
  obtain ⟨d75, hu75, hr75⟩ := u75
  have HNo : Hid (∀ c ∈ D.chs, isN nm c = false) := fun c hc => by
    cases hb : isN nm c with
    | false => rfl
    | true =>
      obtain ⟨f, hf⟩ := S.nm c hc
      rw [isN_eq hb, hlk] at hf
      cases hf
  clear hlk
  clear R S hB0 hBn hcv
  go_enter Tryz.func141, Tryz.ntmps141
  go_upto_region 2 with fail
  go_loopw [11] (fun jv wr => ∃ (j : Nat) (whoj : Nat → Nat), j ≤ D.chs.length ∧ jv = .int .i64 (j : Int) ∧ Rep wr base b D whoj ∧ Blk wr w.heap.size #[.string nm] 9 ∧ Below base w wr) (fun jv _ => D.chs.length - (intOf jv).toNat)
  case atStart => exact ⟨0, who, Nat.zero_le _, rfl, HR0.out, HBn.out, HB0.out⟩
  case round =>
    obtain ⟨j, whoj, hj, rfl, hRj, hBj, hbj⟩ := hrel
    have HRj := hide hRj
    have HBj := hide hBj
    have Hbj := hide hbj
    clear hRj hBj hbj
    by_cases hlt : j < D.chs.length
    · obtain ⟨c, hc⟩ : ∃ c, D.chs[j]? = some c := ⟨D.chs[j], List.getElem?_eq_getElem hlt⟩
      have hcm := List.mem_of_getElem? hc
      have H6 := hide (H64.out c hcm)
      have HC := hide hc
      have HCm := hide hcm
      have hg : ∃ g, a = some ⟨g, 0, none⟩ ∧ wr.rangeAt g (j * 67) c.cells := by
        have ho : wr.ownsRow base 112 67 D.cv D.chs.length (chcells D.chs) := HRj.out.ochs
        rw [HCV.out] at ho
        rcases ho.2 with ⟨hv, hz⟩ | ⟨g, cap', cur, hv, _⟩
        · omega
        · cases hv
          exact ⟨g, rfl, chs_range ho H64.out hc⟩
      obtain ⟨g, rfl, hrg⟩ := hg
      have HRg := hide hrg
      have HZ := hide (show (wr.alloc (.cells Tryz.zeroCells112 112)).heap[wr.heap.size]? = some (.cells Tryz.zeroCells112 112 (0, 0)) from alloc_new _ _)
      have l1 : (j : Int) < (D.chs.length : Int) := by omega
      have l0 : (0 : Int) ≤ (j : Int) := by omega
      have hw1 : IntKind.i64.wrap ((j : Int) + 1) = (j : Int) + 1 := by rw [IntKind.wrap_i64]; have := HS.out.few; omega
      have HFl : Hid (∀ W2, Blk W2 wr.heap.size c.cells.toArray 112 → W2.cell? ⟨wr.heap.size, 0, none⟩ = some (.string c.name)) := fun W2 h => (h.cell 0).trans (chg_get c).2.2.1
      clear hc hcm hrg
      have hb := HNo.out c HCm.out
      have hne : (c.name.toList == nm.toList) = false := hb
      go_wp2_with (first
          | (refine wp_loadC H6.out HRg.out _ (by rfl) (by rfl) (by rfl) ?_)
          | (refine wp_storeC H6.out zeros75_size HZ.out _ _ (by rfl) (by rfl) (by rfl) (by rfl) ?_; intro W2 hB2 hO2; have HB2 := hide hB2; have HO2 := hide hO2; have hnm := HFl.out W2 hB2; have hnb : W2.cell? ⟨w.heap.size, 0, none⟩ = some (.string nm) := (Blk.cell (fresh_blk HBj.out hO2) 0).trans rfl; clear hB2 hO2))
      refine ⟨⟨j + 1, whoj, hlt, rfl, HRj.out.fresh HO2.out, fresh_blk HBj.out HO2.out, Hbj.out.trans (fresh_below HRj.out.base_le HO2.out)⟩, ?_⟩
      simp only [intOf]; omega
    · obtain rfl : j = D.chs.length := by omega
      have HRk := HRj
      have h1k : wr.cell? ⟨b, 1, none⟩ = some (.slice a D.chs.length cap) := by rw [HRk.out.blk.cell 1, ← HCV.out]; rfl
      have hnb : wr.cell? ⟨w.heap.size, 0, none⟩ = some (.string nm) := (HBj.out.cell 0).trans rfl
      have HDl : Hid (Calls Tryz.prog 147 #[.slice a D.chs.length cap, .func (.func 148) #[] #[.pointer (some ⟨w.heap.size, 0, none⟩)]] wr fun e w' => ∃ v', e = .returned v' ∧ w'.ownsRow base 112 67 v' (others nm D.chs).length (chcells (others nm D.chs)) ∧ (∀ g, v'.ownBlock = some g → D.cv.ownBlock = some g) ∧ wr.grownBy w' D.cv.ownBlock) := by
        have ho : wr.ownsRow base 112 67 D.cv D.chs.length (chcells D.chs) := HRk.out.ochs
        have := deleteF wr base D.cv D.chs nm w.heap.size ho H64.out HBj.out HS.out.few
        rw [HCV.out] at this ⊢
        exact this
      have HFr : Hid (∀ w4, wr.grownBy w4 D.cv.ownBlock → w4.frozen? ⟨b, 1, none⟩ = false ∧ (∃ v, w4.cell? ⟨b, 1, none⟩ = some v) ∧ w4.cell? ⟨w.heap.size, 0, none⟩ = some (.string nm)) := fun w4 hg => by
        have hbc : ¬ some b = D.cv.ownBlock := fun e => by have h1 := HRk.out.wc b e.symm; have h2 := HRk.out.wb; omega
        have hB : Blk w4 b _ 76 := (hg.block b HRk.out.blk.lt hbc).trans HRk.out.blk
        have hnc : ¬ some w.heap.size = D.cv.ownBlock := fun e => by
          rcases HRk.out.ochs.2 with ⟨hv, _⟩ | ⟨g, cap, cur, hv, _, hg, _⟩
          · have hv' : D.cv = .slice none 0 0 := hv
            rw [hv'] at e; cases e
          · have hv' : D.cv = .slice (some ⟨g, 0, none⟩) D.chs.length cap := hv
            rw [hv'] at e
            have e' : w.heap.size = g := by simpa [Value.ownBlock] using e
            rw [← e'] at hg
            exact absurd (HBj.out.same hg) (by decide)
        have hN : Blk w4 w.heap.size #[.string nm] 9 := (hg.block _ HBj.out.lt hnc).trans HBj.out
        exact ⟨hB.frozen 1, ⟨_, (hB.cell 1).trans rfl⟩, (hN.cell 0).trans rfl⟩
      go_upto_region 8 with (first
        | (go_at_call 147; refine Calls.mono HDl.out ?_; rintro e w4 ⟨v4, rfl, ho4, hv4, hg4⟩; obtain ⟨hf4, ⟨x4, hc4⟩, hn4⟩ := HFr.out w4 hg4; obtain ⟨a4, cap4, hv5⟩ := ownsRow_form ho4; have HV4 := hide hv4; have HO4 := hide ho4; have HG4 := hide hg4; clear hv4 ho4 hg4; subst hv5))
      obtain ⟨R5, hb5⟩ := HRk.out.cutC nm _ HO4.out HV4.out HG4.out
      have hn5 : (w4.setCell ⟨b, 1, none⟩ (.slice a4 (others nm D.chs).length cap4)).cell? ⟨w.heap.size, 0, none⟩ = some (.string nm) := by
        rw [World.cell?_of_block (w := w4) (Below.heap_setCell _ ⟨b, 1, none⟩ _ w.heap.size (fun e => by
          have e' : w.heap.size = b := e
          have h1 := HRk.out.blk
          rw [← e'] at h1
          exact absurd (HBj.out.same h1) (by decide)))]
        exact hn4
      have HFg := hide (forget_any _ base b _ whoj R5 nm)
      have HR5 := hide R5
      have Hb5 := hide hb5
      clear R5 hb5
      go_wp2_with (first
        | (go_at_call 55; refine Calls.mono HFg.out ?_; rintro e w6 ⟨rfl, hO6, hR6⟩; have HO6 := hide hO6; have HR6 := hide hR6; clear hO6 hR6))
      go_end0
      refine ⟨rfl, (Hbj.out.trans Hb5.out).trans (HO6.out.below HR5.out.base_le (fun k hk => by
        have hk' : k = D.mb := by have h9 := List.mem_singleton.1 hk; exact h9
        rw [hk']
        exact HRk.out.lowm)), .slice a4 (others nm D.chs).length cap4, whoj, HR6.out⟩
end Go.Proofs.YteocmhbllckpjaaGreat

namespace Go.Proofs.YteocmhbllckpjaaGreat
open Go.ChangeShapes Go.WideShapes Go.ChangeAt Go.RowKit
set_option linter.unusedVariables false

/-- What Sync makes of a disk. -/
def KeptD (D : DS) (nm : ByteArray) (D' : DS) : Prop :=
  (∃ f kv cv, look D.fs nm = some f ∧ D' = forgetD { takeD D f kv (keepF nm f.kept D.chs) with cv := cv, chs := others nm D.chs } nm) ∨ (look D.fs nm = none ∧ ∃ cv, D' = forgetD { D with cv := cv, chs := others nm D.chs } nm)
theorem Sane.stepped {D : DS} (S : Sane D) : Sane (stepped D) := ⟨S.sec, S.siz, S.kl, S.nm, S.few⟩
theorem keep_any (w : World) (base b : Nat) (D : DS) (who : Nat → Nat) (R : Rep w base b D who) (S : Sane D) (nm : ByteArray) :
    Calls Tryz.prog 141 #[.pointer (some ⟨b, 0, none⟩), .string nm] w fun e w' => e = .returned (.tuple #[]) ∧ Below base w w' ∧ ∃ D' who', Rep w' base b D' who' ∧ KeptD D nm D' := by
  cases hl : look D.fs nm with
  | some f =>
    refine (keep_hit w base b D who R S nm f hl).mono ?_
    rintro e w' ⟨h1, h2, kv, cv, who', h3⟩
    exact ⟨h1, h2, _, who', h3, .inl ⟨f, kv, cv, hl, rfl⟩⟩
  | none =>
    refine (keep_miss w base b D who R S nm hl).mono ?_
    rintro e w' ⟨h1, h2, cv, who', h3⟩
    exact ⟨h1, h2, _, who', h3, .inr ⟨hl, cv, rfl⟩⟩

set_option maxHeartbeats 1000000 in
theorem sync_up (w : World) (base b : Nat) (D : DS) (who : Nat → Nat) (R : Rep w base b D who) (S : Sane D) (F : Fine D) (hdn : D.down = false) (hfu : D.fuse ≠ 1) (nm : ByteArray) :
    Calls Tryz.prog 127 #[.pointer (some ⟨b, 0, none⟩), .string nm] w fun e w' => e = .returned (.int .i64 0) ∧ Below base w w' ∧ ∃ D' who', Rep w' base b D' who' ∧ KeptD (stepped D) nm D' := by
  have RF := hide (refusal_rep w base b D who R)
  have ES := hide (endStep_rep w base b D who R F.f0 F.f1 F.s0 F.s1)
  have HA : ans D = 0 := if_neg hfu
  have HS := hide S.stepped
  clear R S F hfu
  go_enter Tryz.func127, Tryz.ntmps127
  go_wp2_with (first
    | (go_at_call 38; refine Calls.mono RF.out ?_; rintro e w0 ⟨rfl, rfl⟩; rw [hdn])
    | (go_at_call 70; refine Calls.mono ES.out ?_; rintro e w1 ⟨rfl, hR1, hb1⟩; rw [HA]; have HR1 := hide hR1; have Hb1 := hide hb1; clear hR1 hb1)
    | (go_at_call 141; refine Calls.mono (keep_any w1 base b _ who HR1.out HS.out nm) ?_; rintro e w2 ⟨rfl, hb2, hR2⟩; have Hb2 := hide hb2; have HR2 := hide hR2; clear hb2 hR2))
  go_ret
  exact ⟨rfl, Hb1.out.trans Hb2.out, HR2.out⟩

set_option maxHeartbeats 1000000 in
theorem write_empty (w : World) (base b : Nat) (D : DS) (who : Nat → Nat) (R : Rep w base b D who) (F : Fine D) (hdn : D.down = false) (nm s : ByteArray) (at_ : Nat) (hs : s.size = 0) (hend : at_ ≤ 1048576) :
    Calls Tryz.prog 35 #[.pointer (some ⟨b, 0, none⟩), .string nm, .int .i64 at_, .string s] w fun e w' => e = .returned (.int .i64 (ans D)) ∧ Below base w w' ∧ Rep w' base b (stepped D) who := by
  obtain rfl : s = ⟨#[]⟩ := by
    cases s with | mk d =>
    have : d.size = 0 := hs
    rw [Array.eq_empty_of_size_eq_zero this]
  have M := hide (misfit_rep w base b D who R hdn at_ 0 hend)
  have ES := hide (endStep_rep w base b D who R F.f0 F.f1 F.s0 F.s1)
  clear R F hdn
  go_enter Tryz.func35, Tryz.ntmps35
  go_wp2_with (first
    | (go_at_call 69; refine Calls.mono M.out ?_; rintro e w0 ⟨rfl, rfl⟩)
    | (go_at_call 70; refine Calls.mono ES.out ?_; rintro e w1 ⟨rfl, hR1, hb1⟩; have HR1 := hide hR1; have Hb1 := hide hb1; clear hR1 hb1))
  go_ret
  exact ⟨rfl, Hb1.out, HR1.out⟩
end Go.Proofs.YteocmhbllckpjaaGreat
