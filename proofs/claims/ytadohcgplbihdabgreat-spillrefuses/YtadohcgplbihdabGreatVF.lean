/- Varints read: the plain part. -/
import Derived.Test.YtadohcgplbihdabGreatVC
namespace Go.Proofs.YtadohcgplbihdabGreat.Rec
set_option linter.unusedVariables false

/-- The number with which bytes begin, behind n bytes that made u, and how many bytes it has. -/
def beg : List UInt8 → Nat → Nat → Nat × Nat
  | [], _, _ => (0, 0)
  | b :: r, n, u => if n = 8 then (u * 256 + b.toNat, 9) else if b.toNat < 128 then (u * 128 + b.toNat, n + 1) else beg r (n + 1) (u * 128 + b.toNat % 128)

/-- Digits as a number. -/
def valD (d : List UInt8) : Nat := d.foldl (fun u b => u * 128 + b.toNat % 128) 0
theorem valD_snoc (d : List UInt8) (b : UInt8) : valD (d ++ [b]) = valD d * 128 + b.toNat % 128 := by simp [valD]
theorem lows_snoc (k u : Nat) : lows (k + 1) u = lows k (u / 128) ++ [hiB u] := by
  induction k with
  | zero => simp [lows]
  | succ k ih =>
    rw [lows, ih, lows]
    rw [show u / 128 / 128 ^ k = u / 128 ^ (k + 1) by rw [Nat.pow_succ, Nat.mul_comm, Nat.div_div_eq_div_mul]]
    rfl
theorem hiB_at (b : UInt8) (v : Nat) (h : 128 ≤ b.toNat) : hiB (v * 128 + b.toNat % 128) = b := by
  unfold hiB
  have := b.toNat_lt
  have e : (v * 128 + b.toNat % 128) % 128 + 128 = b.toNat := by omega
  rw [e]
  exact UInt8.ofNat_toNat
theorem snoc_ind {P : List UInt8 → Prop} (h0 : P []) (hs : ∀ d b, P d → P (d ++ [b])) (d : List UInt8) : P d := by
  rw [← List.reverse_reverse d]
  induction d.reverse with
  | nil => exact h0
  | cons b r ih => rw [List.reverse_cons]; exact hs _ _ ih
theorem lows_val (d : List UInt8) : (∀ b ∈ d, 128 ≤ b.toNat) → lows d.length (valD d) = d := by
  refine snoc_ind (P := fun d => (∀ b ∈ d, 128 ≤ b.toNat) → lows d.length (valD d) = d) (fun _ => rfl) (fun d b ih h => ?_) d
  · skip
    rw [List.length_append, show [b].length = 1 from rfl, lows_snoc, valD_snoc]
    rw [hiB_at b _ (h b (by simp))]
    rw [show (valD d * 128 + b.toNat % 128) / 128 = valD d by omega]
    rw [ih (fun c hc => h c (by simp [hc]))]
theorem valD_lt (d : List UInt8) : valD d < 128 ^ d.length := by
  refine snoc_ind (P := fun d => valD d < 128 ^ d.length) (by simp [valD]) (fun d b ih => ?_) d
  · skip
    rw [valD_snoc, List.length_append, show [b].length = 1 from rfl, Nat.pow_succ]
    omega

/-- What the beginning is: digits, then the last byte. -/
theorem beg_form (l d : List UInt8) (hd : ∀ b ∈ d, 128 ≤ b.toNat) (hl : d.length ≤ 8) : ∀ u n, beg l d.length (valD d) = (u, n) → n = 0 ∧ u = 0 ∨ ∃ (e : List UInt8) (b : UInt8), (∀ c ∈ e, 128 ≤ c.toNat) ∧ e.length + 1 = n ∧ n ≤ 9 ∧ (d ++ l).take n = e ++ [b] ∧ n ≤ (d ++ l).length ∧ (n = 9 ∧ u = valD e * 256 + b.toNat ∨ n < 9 ∧ b.toNat < 128 ∧ u = valD e * 128 + b.toNat) := by
  induction l generalizing d with
  | nil =>
    intro u n h
    simp only [beg, Prod.mk.injEq] at h
    exact .inl ⟨h.2.symm, h.1.symm⟩
  | cons b r ih =>
    intro u n h
    rw [beg] at h
    by_cases h8 : d.length = 8
    · rw [if_pos h8] at h
      simp only [Prod.mk.injEq] at h
      refine .inr ⟨d, b, hd, by omega, by omega, ?_, by simp; omega, .inl ⟨by omega, by omega⟩⟩
      rw [show d ++ b :: r = (d ++ [b]) ++ r by simp, List.take_append_of_le_length (by simp; omega), List.take_of_length_le (by simp; omega)]
    · rw [if_neg h8] at h
      by_cases hb : b.toNat < 128
      · rw [if_pos hb] at h
        simp only [Prod.mk.injEq] at h
        refine .inr ⟨d, b, hd, by omega, by omega, ?_, by simp; omega, .inr ⟨by omega, hb, by omega⟩⟩
        rw [show d ++ b :: r = (d ++ [b]) ++ r by simp, List.take_append_of_le_length (by simp; omega), List.take_of_length_le (by simp; omega)]
      · rw [if_neg hb] at h
        have := ih (d ++ [b]) (fun c hc => by
          rcases List.mem_append.1 hc with h | h
          · exact hd c h
          · have : c = b := by simpa using h
            subst this; omega) (by simp; omega) u n (by rw [valD_snoc, List.length_append]; exact h)
        rw [show d ++ b :: r = (d ++ [b]) ++ r by simp]
        exact this

/-- A text begins with a varint just if the number's own bytes are the beginning. -/
theorem beg_iff (l : List UInt8) (u n : Nat) (h : beg l 0 0 = (u, n)) : (n = 0 ∧ u = 0) ∨ (0 < n ∧ n ≤ 9 ∧ n ≤ l.length ∧ u < 18446744073709551616 ∧ (n = vsz u ↔ putL u = l.take n)) := by
  rcases beg_form l [] (by simp) (by simp) u n h with h0 | ⟨e, b, he, hn, h9, ht, hl, hu⟩
  · exact .inl h0
  · right
    have hb := b.toNat_lt
    have hv := valD_lt e
    simp only [List.nil_append] at ht hl
    have hlow := lows_val e he
    have hub : u < 18446744073709551616 := by
      rcases hu with ⟨hn9, rfl⟩ | ⟨hn9, hb1, rfl⟩
      · rw [show e.length = 8 by omega] at hv
        simp only [Nat.reducePow] at hv
        omega
      · have : 128 ^ e.length ≤ 128 ^ 7 := Nat.pow_le_pow_right (by omega) (by omega)
        simp only [Nat.reducePow] at this
        omega
    refine ⟨by omega, h9, hl, hub, fun hs => ?_, fun hp => ?_⟩
    · rw [ht]
      unfold putL
      have hnine := vsz_nine u
      rcases hu with ⟨hn9, rfl⟩ | ⟨hn9, hb1, rfl⟩
      · rw [if_neg (by omega), show (valD e * 256 + b.toNat) / 256 = valD e by omega, show (valD e * 256 + b.toNat) % 256 = b.toNat by omega, show 8 = e.length by omega, hlow]
        rw [UInt8.ofNat_toNat]
      · rw [if_pos (by omega), ← hs, show (valD e * 128 + b.toNat) / 128 = valD e by omega, show (valD e * 128 + b.toNat) % 128 = b.toNat by omega, show n - 1 = e.length by omega, hlow]
        rw [UInt8.ofNat_toNat]
    · have := congrArg List.length hp
      rw [putL_length, List.length_take] at this
      omega
end Go.Proofs.YtadohcgplbihdabGreat.Rec
