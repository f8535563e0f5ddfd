/- Read on a disk that is up; and that 'awake' answers true in whatever world. -/
import Derived.Test.YteocmhbllckpjaaGreatP
namespace Go.Proofs.YteocmhbllckpjaaGreat
open Go.ChangeShapes Go.WideShapes Go.ChangeAt Go.RowKit
open Go.ChangeMaps (setBlock)
set_option linter.unusedVariables false

theorem Read_in (w : World) (base b : Nat) (D : DS) (who : Nat → Nat) (R : Rep w base b D who) (hdn : D.down = false) (nm : ByteArray) (at_ n : Nat) (hl : (seenOf D nm).length ≤ 1048576) (hn : 0 < n) (hin : at_ + n ≤ (seenOf D nm).length) :
    Calls Tryz.prog 12 #[.pointer (some ⟨b, 0, none⟩), .string nm, .int .i64 at_, .int .i64 n] w fun e w' => e = .returned (.tuple #[.string (bstr (((seenOf D nm).drop at_).take n)), .int .i64 0]) ∧ w.grownBy w' none := by
  have RF := refusal_some w b D.mb D.cv D.room D.fuse D.steps D.starts false (by have := R.blk; unfold DS.cells at this; rw [hdn] at this; exact this)
  have S := seen_own w base b D who R nm
  have h1 : ¬ (at_ : Int) < 0 := by omega
  have h2 : ¬ (n : Int) < 0 := by omega
  clear R
  generalize seenOf D nm = l at *
  go_enter Tryz.func12, Tryz.ntmps12
  go_wp2_with (first
    | (go_at_call 38; refine RF.mono ?_; rintro e w0 ⟨rfl, rfl⟩)
    | (go_at_call 39; refine S.mono ?_; rintro e w1 ⟨eb, v, rfl, hc, ho, hg⟩)
    | (go_at_call 40; refine (read_in w1 base eb v l at_ n hc ho hl hn hin).mono ?_; rintro e w2 ⟨rfl, rfl⟩))
  go_ret2
  exact ⟨rfl, hg⟩

theorem Read_whole (w : World) (base b : Nat) (D : DS) (who : Nat → Nat) (R : Rep w base b D who) (hdn : D.down = false) (nm : ByteArray) (hl : (seenOf D nm).length < 1048576) :
    Calls Tryz.prog 12 #[.pointer (some ⟨b, 0, none⟩), .string nm, .int .i64 0, .int .i64 1048576] w fun e w' => e = .returned (.tuple #[.string (bstr (seenOf D nm)), .int .i64 0]) ∧ w.grownBy w' none := by
  have RF := refusal_some w b D.mb D.cv D.room D.fuse D.steps D.starts false (by have := R.blk; unfold DS.cells at this; rw [hdn] at this; exact this)
  have S := seen_own w base b D who R nm
  clear R
  generalize seenOf D nm = l at *
  go_enter Tryz.func12, Tryz.ntmps12
  go_wp2_with (first
    | (go_at_call 38; refine RF.mono ?_; rintro e w0 ⟨rfl, rfl⟩)
    | (go_at_call 39; refine S.mono ?_; rintro e w1 ⟨eb, v, rfl, hc, ho, hg⟩)
    | (go_at_call 40; refine (read_whole w1 base eb v l hc ho hl).mono ?_; rintro e w2 ⟨rfl, rfl⟩))
  go_ret2
  exact ⟨rfl, hg⟩

abbrev nmF : ByteArray := ⟨#[102]⟩
abbrev tenX : ByteArray := ⟨#[120, 120, 120, 120, 120, 120, 120, 120, 120, 120]⟩
abbrev twoY : ByteArray := ⟨#[121, 121]⟩

theorem fine_fresh (mb : Nat) (room : Int) : Fine (DS.fresh mb room) :=
  { lens := by simp [DS.fresh], chn := by simp [DS.fresh], tot := by simp [DS.fresh, total, tot], f0 := by simp [DS.fresh], f1 := by simp [DS.fresh], s0 := by simp [DS.fresh], s1 := by simp [DS.fresh] }

/-- The disk of 'awake' behind its first write. -/
def awD (mb eb : Nat) (v' cv' : Value) : DS :=
  ⟨mb, cv', [⟨nmF, eb, 0, v', .slice none 0 0, wseen [] 60 tenX.data.toList, []⟩], 1, wchs nmF [] 60 tenX.data.toList, 100, 0, 1, 0, false⟩

theorem aw_len : (wseen [] 60 tenX.data.toList).length = 70 := by rw [length_wseen]; rfl
theorem aw_look (mb eb : Nat) (v' cv' : Value) : look (awD mb eb v' cv').fs nmF = some ⟨nmF, eb, 0, v', .slice none 0 0, wseen [] 60 tenX.data.toList, []⟩ := by
  simp [look, awD, bytes_beq]
theorem aw_flen (mb eb : Nat) (v' cv' : Value) : flen (awD mb eb v' cv') nmF = 70 := by
  unfold flen; rw [aw_look]; exact aw_len
theorem aw_seen (mb eb : Nat) (v' cv' : Value) : seenOf (awD mb eb v' cv') nmF = wseen [] 60 tenX.data.toList := by
  unfold seenOf; rw [aw_look]; rfl
theorem aw_total (mb eb : Nat) (v' cv' : Value) : total (awD mb eb v' cv') = 70 := by
  show ([_].map fun f : FL => f.seen.length).sum = 70
  simp only [List.map_cons, List.map_nil, List.sum_cons, List.sum_nil]
  exact aw_len
theorem aw_chs (mb eb : Nat) (v' cv' : Value) : (awD mb eb v' cv').chs.length = 3 := by
  show (wchs nmF [] 60 tenX.data.toList).length = 3
  unfold wchs
  rw [List.length_append, length_secs]
  rfl
theorem aw_fine (mb eb : Nat) (v' cv' : Value) : Fine (awD mb eb v' cv') :=
  { lens := by intro f hf; simp only [awD, List.mem_singleton] at hf; subst hf; show (wseen [] 60 tenX.data.toList).length ≤ _; rw [aw_len]; omega, chn := by rw [aw_chs]; omega, tot := by rw [aw_total]; omega, f0 := by simp [awD], f1 := by simp [awD], s0 := by simp [awD], s1 := by simp [awD] }
end Go.Proofs.YteocmhbllckpjaaGreat
