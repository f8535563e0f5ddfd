/- Truncate on a disk that is up. -/
import Derived.Test.YtfcgjedanhmpiaaW1
import Derived.Test.YtfcgjedanhmpiaaV8
namespace Go.Proofs.Ytfcgjedanhmpiaa
open Go.ChangeShapes Go.WideShapes Go.ChangeAt Go.RowKit
set_option linter.unusedVariables false

/-- What Truncate makes of a disk, ahead of its step's end. -/
def CutTo (D : DS) (nm : ByteArray) (n : Nat) (D' : DS) : Prop :=
  (n = flen D nm ∧ D' = D) ∨ (n ≠ flen D nm ∧ ∃ f1 Dx v' cv', Entered D nm f1 Dx ∧ D' = { Dx with fs := upd Dx.fs f1.born fun x => { x with sv := v', seen := rsz f1.seen n }, cv := cv', chs := Dx.chs ++ [⟨nm, -1, n, List.replicate 64 0⟩] })

set_option maxHeartbeats 2000000 in
set_option maxRecDepth 10000 in
theorem truncate_ok (w : World) (base b : Nat) (D : DS) (who : Nat → Nat) (R : Rep w base b D who) (F : Fine D) (hdn : D.down = false) (nm : ByteArray) (n : Nat) (hend : n ≤ 1048576)
    (hroom : n ≤ flen D nm ∨ (total D : Int) + ((n : Int) - (flen D nm : Int)) ≤ D.room) :
    Calls Try.prog 59 #[.pointer (some ⟨b, 0, none⟩), .string nm, .int .i64 n] w fun e w' => e = .returned (.int .i64 (ans D)) ∧ Below base w w' ∧ ∃ D' who', CutTo D nm n D' ∧ Rep w' base b (stepped D') who' := by
  have M : Hid (Calls Try.prog 64 #[.pointer (some ⟨b, 0, none⟩), .int .i64 n, .int .i64 0] w fun e w' => e = .returned (.int .i64 0) ∧ w = w') := misfit_rep w base b D who R hdn n 0 (by omega)
  have hfl : flen D nm ≤ 1048576 := by
    unfold flen
    cases hl : look D.fs nm with
    | none => simp
    | some f => simpa using F.lens f (List.mem_of_find?_eq_some hl)
  have L : Calls Try.prog 66 #[.pointer (some ⟨b, 0, none⟩), .string nm, .int .i64 n] w fun e w' => e = .returned (.bool false) ∧ w.grownBy w' none := by
    by_cases h : n ≤ flen D nm
    · exact lacks_no w b D.mb D.cv D.room D.fuse D.steps D.starts D.down D.fs D.clock nm (fun f => f.seen.length) (flen D nm) n R.blk R.map R.sizes rfl h hfl
    · refine (lacks_yes w b D.mb D.cv D.room D.fuse D.steps D.starts D.down D.fs D.clock nm (fun f => f.seen.length) (flen D nm) n R.blk R.map R.born R.nodup R.sizes F.tot rfl (by omega) (by omega)).mono ?_
      rintro e w' ⟨rfl, hg⟩
      refine ⟨ret_bool ?_, hg⟩
      have : (total D : Int) + ((n : Int) - (flen D nm : Int)) ≤ D.room := by rcases hroom with h1 | h1; omega; omega
      simp only [decide_eq_false_iff_not]
      unfold total at this
      omega
  have HLk := hide L
  have HS : Hid (∀ V, w.grownBy V none → Calls Try.prog 45 #[.pointer (some ⟨b, 0, none⟩), .string nm] V fun e w' => ∃ eb a c, e = .returned (.pointer (some ⟨eb, 0, none⟩)) ∧ w'.cell? ⟨eb, 0, none⟩ = some (.slice a (flen D nm) c) ∧ V.grownBy w' none) := fun V hV => by
    have RV := R.keep hV
    exact seen_any V b D.mb D.cv D.room D.fuse D.steps D.starts D.down D.fs D.clock nm (fun f => f.seen.length) RV.blk RV.map RV.sizes
  have HR := hide R
  have HF := hide F
  clear R L hroom
  by_cases hne : n = flen D nm
  · subst hne
    go_enter Try.func59, Try.ntmps59
    go_wp2_with (first
      | (go_at_call 64; refine Calls.mono M.out ?_; rintro e w0 ⟨rfl, rfl⟩)
      | (go_at_call 66; refine Calls.mono HLk.out ?_; rintro e w1 ⟨rfl, hg1⟩; have HG1 := hide hg1; clear hg1)
      | (go_at_call 45; refine Calls.mono (HS.out w1 HG1.out) ?_; rintro e w2 ⟨eb, a, c, rfl, hc2, hg2⟩; have HG2 := hide (grown_trans' HG1.out hg2); clear hg2)
      | (go_at_call 46; refine (size_of w2 eb 0 a _ c hc2).mono ?_; rintro e w3 ⟨rfl, rfl⟩)
      | (go_at_call 65; refine Calls.mono (endStep_rep w2 base b D who (HR.out.keep HG2.out) HF.out.f0 HF.out.f1 HF.out.s0 HF.out.s1) ?_; rintro e w4 ⟨rfl, hR4, hb4⟩; have HR4 := hide hR4; have Hb4 := hide hb4; clear hR4 hb4))
    go_ret
    exact ⟨rfl, ((Only.of_grown HG2.out).below HR.out.base_le (by simp)).trans Hb4.out, D, who, .inl ⟨rfl, rfl⟩, HR4.out⟩
  · have hI : ¬ (n : Int) = (flen D nm : Int) := by omega
    have HN := hide hne
    go_enter Try.func59, Try.ntmps59
    go_wp2_with (first
      | (go_at_call 64; refine Calls.mono M.out ?_; rintro e w0 ⟨rfl, rfl⟩)
      | (go_at_call 66; refine Calls.mono HLk.out ?_; rintro e w1 ⟨rfl, hg1⟩; have HG1 := hide hg1; clear hg1)
      | (go_at_call 45; refine Calls.mono (HS.out w1 HG1.out) ?_; rintro e w2 ⟨eb, a, c, rfl, hc2, hg2⟩; have HG2 := hide (grown_trans' HG1.out hg2); clear hg2)
      | (go_at_call 46; refine (size_of w2 eb 0 a _ c hc2).mono ?_; rintro e w3 ⟨rfl, rfl⟩)
      | (go_at_call 70; refine Calls.mono (resize_any w2 base b D who (HR.out.keep HG2.out) nm n hend HF.out.lens (by have := HF.out.chn; omega)) ?_; rintro e w3 ⟨rfl, hb3, f1, Dx, v', cv', who', hE, hR3⟩; have Hb3 := hide hb3; have HE := hide hE; have HR3 := hide hR3; clear hb3 hE hR3)
      | (go_at_call 65; refine Calls.mono (endStep_rep w3 base b _ who' HR3.out (by rw [(Entered.facts HE.out).1]; exact HF.out.f0) (by rw [(Entered.facts HE.out).1]; exact HF.out.f1) (by rw [(Entered.facts HE.out).2.1]; exact HF.out.s0) (by rw [(Entered.facts HE.out).2.1]; exact HF.out.s1)) ?_; rintro e w4 ⟨rfl, hR4, hb4⟩; have HR4 := hide hR4; have Hb4 := hide hb4; clear hR4 hb4))
    go_ret
    refine ⟨ret_int (by simp [ans, (Entered.facts HE.out).1]), (((Only.of_grown HG2.out).below HR.out.base_le (by simp)).trans Hb3.out).trans Hb4.out, _, who', .inr ⟨HN.out, f1, Dx, v', cv', HE.out, rfl⟩, HR4.out⟩
end Go.Proofs.Ytfcgjedanhmpiaa
