/- What is read from a file's beginning; the journal's head. -/
import Derived.Test.YteocmhbllckpjaaGreatAJC
import Derived.Test.YteocmhbllckpjaaGreatS5
namespace Go.Proofs.YteocmhbllckpjaaGreat
open Go.ChangeShapes Go.WideShapes Go.ChangeAt Go.RowKit
open Go.ChangeMaps (setBlock)
set_option linter.unusedVariables false

set_option maxRecDepth 100000 in
theorem read_at (w : World) (base eb : Nat) (v : Value) (l : List UInt8) (n : Nat) (hc : w.cell? ⟨eb, 0, none⟩ = some v) (hown : Own w base v l) (hl : l.length ≤ 1048576) :
    Calls Tryz.prog 40 #[.pointer (some ⟨eb, 0, none⟩), .int .i64 0, .int .i64 n] w fun e w' => e = .returned (.string (bstr (l.take n))) ∧ w = w' := by
  rcases hown.2 with ⟨rfl, hz⟩ | ⟨g, cap, cur, rfl, hbg, hg, hnc, hcm, hcs, htake⟩
  · obtain rfl : l = [] := List.eq_nil_of_length_eq_zero hz
    have hcv := run_convert_bytes_nil (P := Tryz.prog) w 62 5 Tryz.underlying62 Tryz.underlying5 0 0 9 Tryz.underlying9
    have h1 : (0 : Int) ≤ (n : Int) := by omega
    rw [List.take_nil]
    clear hown
    rcases Nat.eq_zero_or_pos n with rfl | hp
    · go_enter Tryz.func40, Tryz.ntmps40
      go_wp2_with (go_at_call 79; refine (size_of w eb 0 none 0 0 hc).mono ?_; rintro e w2 ⟨rfl, rfl⟩)
      go_ret
      exact ⟨rfl, rfl⟩
    · have h2 : (0 : Int) < (n : Int) := by omega
      go_enter Tryz.func40, Tryz.ntmps40
      go_wp2_with (go_at_call 79; refine (size_of w eb 0 none 0 0 hc).mono ?_; rintro e w2 ⟨rfl, rfl⟩)
      go_ret
      exact ⟨rfl, rfl⟩
  · obtain ⟨m, hm⟩ : ∃ m, m = min n l.length := ⟨_, rfl⟩
    have hcv := fun c => conv_at w base g cap l 0 m hown (by omega) c
    rw [List.drop_zero, show l.take m = l.take n by rw [hm, List.take_eq_take_iff]; omega] at hcv
    generalize bstr (l.take n) = RES at hcv ⊢
    have h4 : (m : Int) ≤ (cap : Int) := by omega
    have h5 : (0 : Int) ≤ (m : Int) := by omega
    have h7 : (0 : Int) ≤ (l.length : Int) := by omega
    by_cases hmn : n ≤ l.length
    · obtain rfl : m = n := by omega
      have h6 : ¬ (l.length : Int) < (m : Int) := by omega
      clear hown htake hcs hg hm
      go_enter Tryz.func40, Tryz.ntmps40
      go_wp2_with (go_at_call 79; refine (size_of w eb 0 _ _ _ hc).mono ?_; rintro e w2 ⟨rfl, rfl⟩)
      go_ret
      exact ⟨rfl, rfl⟩
    · obtain rfl : m = l.length := by omega
      have h6 : (l.length : Int) < (n : Int) := by omega
      clear hown htake hcs hg hm
      go_enter Tryz.func40, Tryz.ntmps40
      go_wp2_with (go_at_call 79; refine (size_of w eb 0 _ _ _ hc).mono ?_; rintro e w2 ⟨rfl, rfl⟩)
      go_ret
      exact ⟨rfl, rfl⟩
theorem Read_at (w : World) (base b : Nat) (D : DS) (who : Nat → Nat) (R : Rep w base b D who) (hdn : D.down = false) (nm : ByteArray) (n : Nat) (hl : (seenOf D nm).length ≤ 1048576) :
    Calls Tryz.prog 12 #[.pointer (some ⟨b, 0, none⟩), .string nm, .int .i64 0, .int .i64 n] w fun e w' => e = .returned (.tuple #[.string (bstr ((seenOf D nm).take n)), .int .i64 0]) ∧ w.grownBy w' none := by
  have RF := refusal_some w b D.mb D.cv D.room D.fuse D.steps D.starts false (by have := R.blk; unfold DS.cells at this; rw [hdn] at this; exact this)
  have S := seen_own w base b D who R nm
  have h2 : ¬ (n : Int) < 0 := by omega
  clear R
  generalize seenOf D nm = l at *
  go_enter Tryz.func12, Tryz.ntmps12
  go_wp2_with (first
    | (go_at_call 38; refine RF.mono ?_; rintro e w0 ⟨rfl, rfl⟩)
    | (go_at_call 39; refine S.mono ?_; rintro e w1 ⟨eb, v, rfl, hc, ho, hg⟩)
    | (go_at_call 40; refine (read_at w1 base eb v l n hc ho hl).mono ?_; rintro e w2 ⟨rfl, rfl⟩))
  go_ret2
  exact ⟨rfl, hg⟩
theorem JI.len {r : Int} {D : DS} {i : Nat} (h : JI r D i) (nm : ByteArray) : (seenOf D nm).length ≤ 60000 := by rw [h.fl]; exact h.flen nm
abbrev nmR : ByteArray := ⟨#[106, 111, 117, 114, 110, 97, 108]⟩
theorem refusal_j (w : World) (base b : Nat) (D : DS) (who : Nat → Nat) (R : Rep w base b D who) {r : Int} {i : Nat} (h : JI r D i) :
    Calls Tryz.prog 122 #[.agg #[.pointer (some ⟨b, 0, none⟩)]] w fun e w' => e = .returned (.int .i64 0) ∧ w.grownBy w' none := by
  have hg0 := World.grownBy_alloc w (.cells #[.pointer (some ⟨b, 0, none⟩)] 205) none
  have HR : Hid (Calls Tryz.prog 12 #[.pointer (some ⟨b, 0, none⟩), .string nmR, .int .i64 0, .int .i64 0] (w.alloc (.cells #[.pointer (some ⟨b, 0, none⟩)] 205)) _) := Read_at _ base b D who (R.keep hg0) h.down nmR 0 (by have := h.len nmR; omega)
  have HG := hideJ hg0
  clear R h hg0
  go_enter Tryz.func122, Tryz.ntmps122
  go_wp2_with (go_at_call 12; with_reducible refine Calls.mono HR.out ?_; rintro e w4 ⟨rfl, hg⟩; have HG4 := hideJ (grown_trans' HG.out hg); clear hg)
  go_ret
  exact ⟨rfl, HG4.out⟩
/-- What the head of a journal says. -/
def hd (l : List UInt8) : Array Value := if l.length < 64 then #[.int .u32 0, .int .u32 0, .int .u32 0, .int .u32 0] else sayV (l.take 64)
end Go.Proofs.YteocmhbllckpjaaGreat
