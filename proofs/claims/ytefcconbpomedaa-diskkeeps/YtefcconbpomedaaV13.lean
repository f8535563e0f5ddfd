/- DiskSteps: the data handed in; one write. -/
import Derived.Test.YtefcconbpomedaaV12
namespace Go.Proofs.Ytefcconbpomedaa
open Go.ChangeShapes Go.WideShapes Go.ChangeAt Go.RowKit
set_option linter.unusedVariables false

/-- Changes to a file, handed in. -/
def FP (w : World) (p : Option Addr) (n : Nat) (A : Nat → Int) (S : Nat → ByteArray) : Prop := 0 < n → ∃ g o, p = some ⟨g, o, none⟩ ∧ ∀ i, i < n → w.cell? ⟨g, o + i * 2, none⟩ = some (.int .i64 (A i)) ∧ w.cell? ⟨g, o + i * 2 + 1, none⟩ = some (.string (S i))
theorem cell_laterD {w w' : World} (b : Below w.heap.size w w') {a : Addr} {v : Value} (h : w.cell? a = some v) : w'.cell? a = some v := by
  refine (b.cell ?_).trans h
  refine Nat.lt_of_not_le fun hn => ?_
  have : w.heap[a.block]? = none := by simp; exact hn
  rw [World.cell?_of_block (w := World.mk #[] w.tape w.drawn w.os w.output) (w' := w) (by rw [this]; simp)] at h
  simp [World.cell?] at h
theorem FP.later {w w' : World} {p : Option Addr} {n : Nat} {A : Nat → Int} {S : Nat → ByteArray} (h : FP w p n A S) (hb : Below w.heap.size w w') : FP w' p n A S := fun h0 => by
  obtain ⟨g, o, hp, hc⟩ := h h0
  exact ⟨g, o, hp, fun i hi => ⟨cell_laterD hb (hc i hi).1, cell_laterD hb (hc i hi).2⟩⟩
def LongF (n : Nat) (S : Nat → ByteArray) : Prop := ∃ i, i < n ∧ 2000 < (S i).size

set_option maxHeartbeats 1000000 in
theorem long_any (w : World) (p : Option Addr) (n cap : Nat) (A : Nat → Int) (S : Nat → ByteArray) (h : FP w p n A S) (hn : n ≤ 1000000) :
    Calls Try.prog 26 #[.slice p n cap] w fun e w' => (∃ x : Bool, e = .returned (.bool x) ∧ (x = true ↔ LongF n S)) ∧ w = w' := by
  have HH := hide h
  clear h
  go_enter Try.func26, Try.ntmps26
  go_wp2
  go_loopw [3] (fun iv wr => ∃ j : Nat, j ≤ n ∧ iv = .int .i64 (j : Int) ∧ wr = w ∧ ∀ i, i < j → (S i).size ≤ 2000) (fun iv _ => n - (intOf iv).toNat)
  case atStart => exact ⟨0, Nat.zero_le _, rfl, rfl, fun i hi => by omega⟩
  case round =>
    obtain ⟨j, hj, rfl, rfl, hno⟩ := hrel
    have HNo := hide hno
    clear hno
    by_cases hlt : j < n
    · obtain ⟨g, o, rfl, hc⟩ := HH.out (by omega)
      have c1 := (hc j hlt).2
      have l1 : (j : Int) < (n : Int) := by omega
      have l0 : (0 : Int) ≤ (j : Int) := by omega
      have hw1 : IntKind.i64.wrap ((j : Int) + 1) = (j : Int) + 1 := by rw [IntKind.wrap_i64]; omega
      clear hc
      by_cases hs : 2000 < (S j).size
      · have l2 : (2000 : Int) < ((S j).size : Int) := by omega
        go_wp2
        go_ret
        exact ⟨⟨true, rfl, fun _ => ⟨j, hlt, hs⟩, fun _ => rfl⟩, rfl⟩
      · have l2 : ¬ (2000 : Int) < ((S j).size : Int) := by omega
        go_wp2
        refine ⟨⟨j + 1, hlt, rfl, trivial, fun i hi => ?_⟩, ?_⟩
        · by_cases e : i = j
          · subst e; omega
          · exact HNo.out i (by omega)
        · simp only [intOf]; omega
    · obtain rfl : j = n := by omega
      go_wp2
      go_ret
      exact ⟨⟨false, rfl, (fun h => by cases h), fun ⟨i, hi, h2⟩ => absurd (HNo.out i hi) (by omega)⟩, rfl⟩

/-- Did it crash within i writes? -/
def crB (n : Int) (i : Nat) : Bool := decide (1 ≤ n ∧ n ≤ (i : Int))
structure StJ (D : DS) (n : Int) (i : Nat) : Prop where
  st : StI D i
  down : D.down = crB n i
  fuse : crB n i = false → D.fuse = if n < 1 then 0 else n - i

set_option maxHeartbeats 1000000 in
theorem write_step (w : World) (base b : Nat) (D : DS) (who : Nat → Nat) (R : Rep w base b D who) (n : Int) (i : Nat) (h : StJ D n i) (hi : i ≤ 50) (s : ByteArray) (at_ : Nat) (hat : at_ ≤ 4095) (hs : s.size ≤ 2000) :
    Calls Try.prog 11 #[.pointer (some ⟨b, 0, none⟩), .string nmF, .int .i64 at_, .string s] w fun e w' => e = .returned (.int .i64 (if crB n (i + 1) then 7 else 0)) ∧ Below base w w' ∧ ∃ D' who', Rep w' base b D' who' ∧ StJ D' n (i + 1) := by
  have hds : s.data.toList.length = s.size := by rw [Array.length_toList]; rfl
  cases hb : crB n i with
  | true =>
    have h1 : crB n (i + 1) = true := by
      unfold crB at hb ⊢
      have := of_decide_eq_true hb
      exact decide_eq_true ⟨this.1, by have := this.2; omega⟩
    rw [h1]
    refine (write_down w base b D who R (by rw [h.down, hb]) nmF s at_).mono ?_
    rintro e w' ⟨rfl, rfl⟩
    refine ⟨rfl, Below.refl _ _, D, who, R, ?_, by rw [h.down, hb, h1], fun h2 => by rw [h1] at h2; cases h2⟩
    have := h.st
    exact ⟨this.one, by have := this.chn; omega, this.room, this.f0, this.f1, this.s0, by have := this.s1; omega, by have := this.st; omega, this.born⟩
  | false =>
    have hdn : D.down = false := by rw [h.down, hb]
    have hfu := h.fuse hb
    have hni : ¬ (1 ≤ n ∧ n ≤ (i : Int)) := by unfold crB at hb; exact of_decide_eq_false hb
    have hans : ans D = if crB n (i + 1) then 7 else 0 := by
      unfold ans crB
      rw [hfu]
      by_cases h1 : 1 ≤ n ∧ n ≤ ((i + 1 : Nat) : Int)
      · rw [if_pos (by rw [if_neg (by omega)]; omega), if_pos (decide_eq_true h1)]
      · rw [if_neg (by split <;> omega), if_neg (by rw [decide_eq_false h1]; decide)]
    have hnew : ∀ D', StI D' (i + 1) → D'.fuse = (if D.fuse = 0 then 0 else D.fuse - 1) → D'.down = (D.down || D.fuse == 1) → StJ D' n (i + 1) := fun D' hS h1 h2 => by
      refine ⟨hS, ?_, fun h3 => ?_⟩
      · rw [h2, hdn, hfu]
        unfold crB
        by_cases h1 : 1 ≤ n ∧ n ≤ ((i + 1 : Nat) : Int)
        · rw [decide_eq_true h1, if_neg (by omega), show n - (i : Int) = 1 by omega]; rfl
        · rw [decide_eq_false h1]
          split
          · rfl
          · have : ¬ (n - (i : Int)) = 1 := by omega
            simp [this]
      · rw [h1, hfu]
        unfold crB at h3
        have h4 := of_decide_eq_false h3
        by_cases h5 : n < 1
        · rw [if_pos h5, if_pos h5, if_pos rfl]
        · rw [if_neg h5, if_neg h5, if_neg (by omega)]
          omega
    have hF := h.st.fine (by omega)
    rw [← hans]
    by_cases h0 : s.size = 0
    · refine (write_empty w base b D who R hF hdn nmF s at_ h0 (by omega)).mono ?_
      rintro e w' ⟨h1, h2, h3⟩
      exact ⟨h1, h2, _, who, h3, hnew _ h.st.stepped rfl rfl⟩
    · have hfl := h.st.flen
      refine (write_ok w base b D who R hF hdn nmF s at_ (by omega) (by omega) (.inr ?_)).mono ?_
      · rw [h.st.room]; omega
      · rintro e w' ⟨h1, h2, f1, D1, v', cv', who', hE, h3⟩
        have hf := Entered.facts hE
        refine ⟨h1, h2, _, who', h3, hnew _ (h.st.write hE v' cv' s at_ hat (by omega)) ?_ ?_⟩
        · show (if D1.fuse = 0 then 0 else D1.fuse - 1) = _
          rw [hf.1]
        · show (D1.down || D1.fuse == 1) = _
          rw [hf.1, hf.2.2.1]
end Go.Proofs.Ytefcconbpomedaa
