/- A file without bytes is forgotten. -/
import Derived.Test.YtfcgjedanhmpiaaV5
import Derived.Test.YtfcgjedanhmpiaaO
namespace Go.Proofs.Ytfcgjedanhmpiaa
open Go.ChangeShapes Go.WideShapes Go.ChangeAt Go.RowKit
open Go.ChangeMaps (setBlock)
set_option linter.unusedVariables false

theorem findNow_at (nm : ByteArray) : ∀ (fs : List FL) (i : Nat) (f : FL), look fs nm = some f → ∃ j, Instr.findNow .string (.string nm) (fs.map FL.ent) i = some (some (i + j, .pointer (some ⟨f.eb, 0, none⟩))) ∧ fs[j]? = some f
  | [], i, f, h => by simp [look] at h
  | a :: fs, i, f, h => by
    simp only [look, List.find?_cons] at h
    simp only [List.map_cons, Instr.findNow, Instr.sameNow]
    cases hb : (nm == a.name) with
    | true =>
      rw [hb] at h
      cases h
      exact ⟨0, by simp, rfl⟩
    | false =>
      rw [hb] at h
      obtain ⟨j, h1, h2⟩ := findNow_at nm fs (i + 1) f h
      refine ⟨j + 1, ?_, h2⟩
      rw [show i + (j + 1) = i + 1 + j by omega]
      exact h1
theorem erase_filter : ∀ {fs : List FL} (hn : (fs.map (·.born)).Nodup) {j : Nat} {f : FL}, fs[j]? = some f → fs.eraseIdx j = fs.filter (fun x => x.born != f.born)
  | [], _, j, f, h => by simp at h
  | a :: fs, hn, 0, f, h => by
    simp at h
    subst h
    have hn' := List.nodup_cons.1 hn
    simp only [List.eraseIdx_zero, List.tail_cons, List.filter_cons, bne_self_eq_false, Bool.false_eq_true, if_false]
    symm
    rw [List.filter_eq_self]
    intro x hx
    have : x.born ≠ a.born := fun e => hn'.1 (List.mem_map.2 ⟨x, hx, e⟩)
    simpa using this
  | a :: fs, hn, j + 1, f, h => by
    have hn' := List.nodup_cons.1 hn
    simp only [List.getElem?_cons_succ] at h
    have hne : a.born ≠ f.born := fun e => hn'.1 (List.mem_map.2 ⟨f, List.mem_of_getElem? h, e.symm⟩)
    rw [List.eraseIdx_cons_succ, List.filter_cons, if_pos (by simpa using hne), erase_filter hn'.2 h]
theorem map_erase {α β : Type} (f : α → β) : ∀ (l : List α) (j : Nat), (l.map f).eraseIdx j = (l.eraseIdx j).map f
  | [], j => by simp
  | a :: l, 0 => by simp
  | a :: l, j + 1 => by simp [map_erase f l j]
/-- A disk without a file. -/
def without (D : DS) (f : FL) : DS := { D with fs := D.fs.filter (fun x => x.born != f.born) }
theorem del_hit (w : World) (mb : Nat) (fs : List FL) (clock : Nat) (nm : ByteArray) (f : FL) (hm : w.heap[mb]? = some (.map (ents fs) clock)) (hl : look fs nm = some f) (hn : (fs.map (·.born)).Nodup) (ty : TypeId) :
    (Builtin.delete_ #[68, 9] ty #[.map (some mb), .string nm]).run Try.prog w = .ok (.tuple #[]) (setBlock w mb (.map (ents (fs.filter fun x => x.born != f.born)) clock)) := by
  obtain ⟨j, h, hj⟩ := findNow_at nm fs 0 f hl
  rw [Nat.zero_add] at h
  have he : (ents fs).eraseIdxIfInBounds j = ents (fs.filter fun x => x.born != f.born) := by
    have hlt : j < fs.length := (List.getElem?_eq_some_iff.1 hj).1
    rw [← erase_filter hn hj]
    simp only [ents]
    rw [List.eraseIdxIfInBounds_toArray, map_erase]
  have h' : Instr.findNow .string (.string nm) (ents fs).toList 0 = some (some (j, .pointer (some ⟨f.eb, 0, none⟩))) := by simpa [ents] using h
  simp [Builtin.delete_, run_underlying Try.underlying68, MapKept.run_getObj_map hm, ckey w nm, MapKept.run_findKey (d := .string) Try.underlying9 h', Result.andThen, MapKept.run_setObj_map (P := Try.prog) (w := w) _ hm, setBlock, he]
theorem del_miss (w : World) (mb : Nat) (fs : List FL) (clock : Nat) (nm : ByteArray) (hm : w.heap[mb]? = some (.map (ents fs) clock)) (hl : look fs nm = none) (ty : TypeId) :
    (Builtin.delete_ #[68, 9] ty #[.map (some mb), .string nm]).run Try.prog w = .ok (.tuple #[]) (setBlock w mb (.map (ents fs) clock)) := by
  have h := findNow_ents nm fs 0
  rw [hl] at h
  simp [Builtin.delete_, run_underlying Try.underlying68, MapKept.run_getObj_map hm, ckey w nm, MapKept.run_findKey (d := .string) Try.underlying9 (show _ = some none from h), Result.andThen, MapKept.run_setObj_map (P := Try.prog) (w := w) _ hm, setBlock, ents]
/-- A disk that forgets a file without bytes. -/
def forgetD (D : DS) (nm : ByteArray) : DS := if flen D nm = 0 then (match look D.fs nm with | some f => without D f | none => D) else D

set_option maxHeartbeats 1000000 in
theorem forget_any (w : World) (base b : Nat) (D : DS) (who : Nat → Nat) (R : Rep w base b D who) (nm : ByteArray) :
    Calls Try.prog 50 #[.pointer (some ⟨b, 0, none⟩), .string nm] w fun e w' => e = .returned (.tuple #[]) ∧ Only [D.mb] w w' ∧ Rep w' base b (forgetD D nm) who := by
  have S := seen_any w b D.mb D.cv D.room D.fuse D.steps D.starts D.down D.fs D.clock nm (fun f => f.seen.length) R.blk R.map R.sizes
  have hfl : ((look D.fs nm).map fun f => f.seen.length).getD 0 = flen D nm := rfl
  rw [hfl] at S
  have HR := hide R
  have HS := hide S
  clear hfl R S
  by_cases h0 : flen D nm = 0
  · have HC : Hid (∀ V, w.grownBy V none → V.cell? ⟨b, 0, none⟩ = some (.map (some D.mb))) := fun V hV => ((HR.out.keep hV).blk.cell 0).trans rfl
    cases hl : look D.fs nm with
    | some f =>
      have HD : Hid (∀ V, w.grownBy V none → ∀ ty, (Builtin.delete_ #[68, 9] ty #[.map (some D.mb), .string nm]).run Try.prog V = .ok (.tuple #[]) (setBlock V D.mb (.map (ents (D.fs.filter fun x => x.born != f.born)) D.clock))) := fun V hV ty => del_hit V D.mb D.fs D.clock nm f (HR.out.keep hV).map hl HR.out.nodup ty
      go_enter Try.func50, Try.ntmps50
      go_wp2_with (first
        | (go_at_call 45; refine Calls.mono HS.out ?_; rintro e w1 ⟨eb, a, c, rfl, hc, hg⟩; have HG := hide hg; have hmc := HC.out w1 hg; have hdl := HD.out w1 hg; clear hg)
        | (go_at_call 46; refine (size_of w1 eb 0 a _ c hc).mono ?_; rintro e w2 ⟨rfl, rfl⟩; rw [h0]))
      go_end0
      have hO : Only [D.mb] w1 (setBlock w1 D.mb (.map (ents (D.fs.filter fun x => x.born != f.born)) D.clock)) := Only.setBlock _ _ _
      have hO2 : Only [D.mb] w w1 := (Only.of_grown HG.out).mono (by simp)
      have R1 := HR.out.keep HG.out
      refine ⟨rfl, hO2.trans hO, ?_⟩
      unfold forgetD
      rw [if_pos h0, hl]
      exact R1.delF _ (fun x hx => (List.mem_filter.1 hx).1) (List.Nodup.sublist ((List.filter_sublist).map _) R1.nodup) hO (setBlock_same R1.map)
    | none =>
      have HD : Hid (∀ V, w.grownBy V none → ∀ ty, (Builtin.delete_ #[68, 9] ty #[.map (some D.mb), .string nm]).run Try.prog V = .ok (.tuple #[]) (setBlock V D.mb (.map (ents D.fs) D.clock))) := fun V hV ty => del_miss V D.mb D.fs D.clock nm (HR.out.keep hV).map hl ty
      go_enter Try.func50, Try.ntmps50
      go_wp2_with (first
        | (go_at_call 45; refine Calls.mono HS.out ?_; rintro e w1 ⟨eb, a, c, rfl, hc, hg⟩; have HG := hide hg; have hmc := HC.out w1 hg; have hdl := HD.out w1 hg; clear hg)
        | (go_at_call 46; refine (size_of w1 eb 0 a _ c hc).mono ?_; rintro e w2 ⟨rfl, rfl⟩; rw [h0]))
      go_end0
      have hO : Only [D.mb] w1 (setBlock w1 D.mb (.map (ents D.fs) D.clock)) := Only.setBlock _ _ _
      have hO2 : Only [D.mb] w w1 := (Only.of_grown HG.out).mono (by simp)
      have R1 := HR.out.keep HG.out
      refine ⟨rfl, hO2.trans hO, ?_⟩
      unfold forgetD
      rw [if_pos h0, hl]
      exact R1.delF D.fs (fun x hx => hx) R1.nodup hO (setBlock_same R1.map)
  · have hf : ¬ (flen D nm : Int) = 0 := by omega
    go_enter Try.func50, Try.ntmps50
    go_wp2_with (first
      | (go_at_call 45; refine Calls.mono HS.out ?_; rintro e w1 ⟨eb, a, c, rfl, hc, hg⟩; have HG := hide hg; clear hg)
      | (go_at_call 46; refine (size_of w1 eb 0 a _ c hc).mono ?_; rintro e w2 ⟨rfl, rfl⟩))
    go_end0
    refine ⟨rfl, (Only.of_grown HG.out).mono (by simp), ?_⟩
    unfold forgetD
    rw [if_neg h0]
    exact HR.out.keep HG.out
end Go.Proofs.Ytfcgjedanhmpiaa
