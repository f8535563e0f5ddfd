/- Read on a disk that is up; and that 'awake' answers true in whatever world. -/
import Derived.Test.YtefcconbpomedaaP
namespace Go.Proofs.Ytefcconbpomedaa
open Go.ChangeShapes Go.WideShapes Go.ChangeAt Go.RowKit
open Go.ChangeMaps (setBlock)
set_option linter.unusedVariables false

theorem Read_in (w : World) (base b : Nat) (D : DS) (who : Nat → Nat) (R : Rep w base b D who) (hdn : D.down = false) (nm : ByteArray) (at_ n : Nat) (hl : (seenOf D nm).length ≤ 1048576) (hn : 0 < n) (hin : at_ + n ≤ (seenOf D nm).length) :
    Calls Try.prog 7 #[.pointer (some ⟨b, 0, none⟩), .string nm, .int .i64 at_, .int .i64 n] w fun e w' => e = .returned (.tuple #[.string (bstr (((seenOf D nm).drop at_).take n)), .int .i64 0]) ∧ w.grownBy w' none := by
  have RF := refusal_some w b D.mb D.cv D.room D.fuse D.steps D.starts false (by have := R.blk; unfold DS.cells at this; rw [hdn] at this; exact this)
  have S := seen_own w base b D who R nm
  have h1 : ¬ (at_ : Int) < 0 := by omega
  have h2 : ¬ (n : Int) < 0 := by omega
  clear R
  generalize seenOf D nm = l at *
  go_enter Try.func7, Try.ntmps7
  go_wp2_with (first
    | (go_at_call 29; refine RF.mono ?_; rintro e w0 ⟨rfl, rfl⟩)
    | (go_at_call 30; refine S.mono ?_; rintro e w1 ⟨eb, v, rfl, hc, ho, hg⟩)
    | (go_at_call 31; refine (read_in w1 base eb v l at_ n hc ho hl hn hin).mono ?_; rintro e w2 ⟨rfl, rfl⟩))
  go_ret2
  exact ⟨rfl, hg⟩

theorem Read_whole (w : World) (base b : Nat) (D : DS) (who : Nat → Nat) (R : Rep w base b D who) (hdn : D.down = false) (nm : ByteArray) (hl : (seenOf D nm).length < 1048576) :
    Calls Try.prog 7 #[.pointer (some ⟨b, 0, none⟩), .string nm, .int .i64 0, .int .i64 1048576] w fun e w' => e = .returned (.tuple #[.string (bstr (seenOf D nm)), .int .i64 0]) ∧ w.grownBy w' none := by
  have RF := refusal_some w b D.mb D.cv D.room D.fuse D.steps D.starts false (by have := R.blk; unfold DS.cells at this; rw [hdn] at this; exact this)
  have S := seen_own w base b D who R nm
  clear R
  generalize seenOf D nm = l at *
  go_enter Try.func7, Try.ntmps7
  go_wp2_with (first
    | (go_at_call 29; refine RF.mono ?_; rintro e w0 ⟨rfl, rfl⟩)
    | (go_at_call 30; refine S.mono ?_; rintro e w1 ⟨eb, v, rfl, hc, ho, hg⟩)
    | (go_at_call 31; refine (read_whole w1 base eb v l hc ho hl).mono ?_; rintro e w2 ⟨rfl, rfl⟩))
  go_ret2
  exact ⟨rfl, hg⟩

abbrev nmF : ByteArray := ⟨#[102]⟩
abbrev tenX : ByteArray := ⟨#[120, 120, 120, 120, 120, 120, 120, 120, 120, 120]⟩
abbrev twoY : ByteArray := ⟨#[121, 121]⟩

theorem fine_fresh (mb : Nat) (room : Int) : Fine (DS.fresh mb room) :=
  { lens := by simp [DS.fresh], chn := by simp [DS.fresh], tot := by simp [DS.fresh, total, tot], f0 := by simp [DS.fresh], f1 := by simp [DS.fresh], s0 := by simp [DS.fresh], s1 := by simp [DS.fresh] }

/-- The disk of 'awake' behind its first write. -/
def awD (mb eb : Nat) (v' cv' : Value) : DS :=
  ⟨mb, cv', [⟨nmF, eb, 0, v', .slice none 0 0, wseen [] 60 tenX.data.toList, []⟩], 1, wchs nmF [] 60 tenX.data.toList, 100, 0, 1, 0, false⟩

theorem aw_len : (wseen [] 60 tenX.data.toList).length = 70 := by rw [length_wseen]; rfl
theorem aw_look (mb eb : Nat) (v' cv' : Value) : look (awD mb eb v' cv').fs nmF = some ⟨nmF, eb, 0, v', .slice none 0 0, wseen [] 60 tenX.data.toList, []⟩ := by
  simp [look, awD, bytes_beq]
theorem aw_flen (mb eb : Nat) (v' cv' : Value) : flen (awD mb eb v' cv') nmF = 70 := by
  unfold flen; rw [aw_look]; exact aw_len
theorem aw_seen (mb eb : Nat) (v' cv' : Value) : seenOf (awD mb eb v' cv') nmF = wseen [] 60 tenX.data.toList := by
  unfold seenOf; rw [aw_look]; rfl
theorem aw_total (mb eb : Nat) (v' cv' : Value) : total (awD mb eb v' cv') = 70 := by
  show ([_].map fun f : FL => f.seen.length).sum = 70
  simp only [List.map_cons, List.map_nil, List.sum_cons, List.sum_nil]
  exact aw_len
theorem aw_chs (mb eb : Nat) (v' cv' : Value) : (awD mb eb v' cv').chs.length = 3 := by
  show (wchs nmF [] 60 tenX.data.toList).length = 3
  unfold wchs
  rw [List.length_append, length_secs]
  rfl
theorem aw_fine (mb eb : Nat) (v' cv' : Value) : Fine (awD mb eb v' cv') :=
  { lens := by intro f hf; simp only [awD, List.mem_singleton] at hf; subst hf; show (wseen [] 60 tenX.data.toList).length ≤ _; rw [aw_len]; omega, chn := by rw [aw_chs]; omega, tot := by rw [aw_total]; omega, f0 := by simp [awD], f1 := by simp [awD], s0 := by simp [awD], s1 := by simp [awD] }

theorem awake_any (w : World) : Calls Try.prog 22 #[] w fun e w' => e = .returned (.bool true) ∧ Below w.heap.size w w' := by
  have N := new_any w 100 (by omega)
  go_enter Try.func22, Try.ntmps22
  go_wp2_with (go_at_call 27; refine N.mono ?_; rintro e w1 ⟨rfl, hg1, who1, R1⟩)
  have hB1 : Below w.heap.size w w1 := (Only.of_grown hg1).below (Nat.le_refl _) (by simp)
  have W1 := write_ok w1 _ _ _ who1 R1 (fine_fresh _ _) rfl nmF tenX 60 (by decide) (by decide) (.inr (show ((0 : Nat) : Int) + ((70 : Nat) - ((0 : Nat) : Int)) ≤ 100 by decide))
  have W1' : Calls Try.prog 11 #[.pointer (some ⟨w.heap.size + 1, 0, none⟩), .string nmF, .int .i64 60, .string tenX] w1 fun e w' => e = .returned (.int .i64 0) ∧ Below w.heap.size w w' ∧ ∃ eb v' cv' who', Rep w' w.heap.size (w.heap.size + 1) (awD w.heap.size eb v' cv') who' := by
    refine W1.mono ?_
    rintro e w' ⟨rfl, hB, f1, D1, v', cv', who', hE, R⟩
    refine ⟨rfl, hB1.trans hB, ?_⟩
    rcases hE with ⟨h, _⟩ | ⟨_, eb, rfl, rfl⟩
    · simp [look, DS.fresh] at h
    · exact ⟨eb, v', cv', who', by simpa [awD, stepped, upd, DS.fresh, FL.fresh] using R⟩
  clear W1 N R1 hg1 hB1
  go_wp2_with (go_at_call 11; refine W1'.mono ?_; rintro e w2 ⟨rfl, hB2, eb, v', cv', who2, R2⟩)
  have hs := aw_seen w.heap.size eb v' cv'
  have hsl : (seenOf (awD w.heap.size eb v' cv') nmF).length = 70 := by rw [hs]; exact aw_len
  have RD := Read_in w2 _ _ _ who2 R2 rfl nmF 58 4 (by rw [hsl]; omega) (by omega) (by rw [hsl]; omega)
  have hval : bstr (((seenOf (awD w.heap.size eb v' cv') nmF).drop 58).take 4) = ⟨#[0, 0, 120, 120]⟩ := by rw [hs]; rfl
  rw [hval] at RD
  clear hs hsl hval W1'
  go_wp2_with (go_at_call 7; refine RD.mono ?_; rintro e w3 ⟨rfl, hg3⟩)
  have R3 := R2.keep hg3
  have W2 := write_full w3 _ _ _ who2 R3 (aw_fine _ _ _ _) rfl nmF twoY 99 (by decide) (by decide) (by rw [aw_flen]; decide) (by rw [aw_flen, aw_total]; show (100 : Int) < ((70 : Nat) : Int) + ((101 : Nat) - ((70 : Nat) : Int)); decide)
  clear RD
  go_wp2_with (go_at_call 11; refine W2.mono ?_; rintro e w4 ⟨rfl, hg4⟩)
  have R4 := R3.keep hg4
  have LN := len_up w4 _ _ _ who2 R4 rfl nmF
  rw [aw_flen] at LN
  have PN : ∀ w5, w4.grownBy w5 none → Calls Try.prog 19 #[.pointer (some ⟨w.heap.size + 1, 0, none⟩)] w5 fun e w' => e = .returned (.int .i64 3) ∧ w5 = w' := fun w5 hg => by
    have := pending_any w5 _ _ _ who2 (R4.keep hg)
    rw [aw_chs] at this
    exact this
  have ST : ∀ w5, w4.grownBy w5 none → Calls Try.prog 18 #[.pointer (some ⟨w.heap.size + 1, 0, none⟩)] w5 fun e w' => e = .returned (.int .i64 1) ∧ w5 = w' := fun w5 hg => steps_any w5 _ _ _ who2 (R4.keep hg)
  have hB4 : Below w.heap.size w w4 := (hB2.trans ((Only.of_grown hg3).below (by have := hB2.size; omega) (by simp))).trans ((Only.of_grown hg4).below (by have := hB2.size; have := hg3.size; omega) (by simp))
  have HP : Hid (∀ w5, w4.grownBy w5 none → Calls Try.prog 19 #[.pointer (some ⟨w.heap.size + 1, 0, none⟩)] w5 fun e w' => e = .returned (.int .i64 3) ∧ w5 = w') := PN
  have HT : Hid (∀ w5, w4.grownBy w5 none → Calls Try.prog 18 #[.pointer (some ⟨w.heap.size + 1, 0, none⟩)] w5 fun e w' => e = .returned (.int .i64 1) ∧ w5 = w') := ST
  clear PN ST W2
  go_wp2_with (first
    | (go_at_call 15; refine LN.mono ?_; rintro e w5 ⟨rfl, hg5⟩)
    | (go_at_call 19; refine (HP.out w5 hg5).mono ?_; rintro e w6 ⟨rfl, rfl⟩)
    | (go_at_call 18; refine (HT.out w5 hg5).mono ?_; rintro e w6 ⟨rfl, rfl⟩))
  go_ret
  exact ⟨rfl, hB4.trans ((Only.of_grown hg5).below (by have := hB4.size; omega) (by simp))⟩

end Go.Proofs.Ytefcconbpomedaa
