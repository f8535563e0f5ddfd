/- The plain part: a sealed sector, torn anywhere, says the old numbers or the new ones; written anew as it says it, torn anywhere, it says the same. -/
import Derived.Test.YteocmhbllckpjaaGreatS5
namespace Go.Proofs.YteocmhbllckpjaaGreat
set_option linter.unusedVariables false

def cutB (x y : List UInt8) (t : Nat) : List UInt8 := x.take t ++ y.drop t
theorem length_cutB (x y : List UInt8) (t : Nat) (hx : x.length = 64) (hy : y.length = 64) (ht : t ≤ 64) : (cutB x y t).length = 64 := by simp [cutB]; omega

def sameF (f : Nat → Nat) : Prop := ∀ i, i < 16 → f i = f (16 + i)
def saysF (f C : Nat → Nat) : Prop := (sameF f → ∀ i, i < 16 → f i = C i) ∧ (¬ sameF f → ∀ i, i < 16 → f (32 + i) = C i)
def mixF (f g : Nat → Nat) (t j : Nat) : Nat := if j < t then f j else g j

theorem X0 {X A : Nat → Nat} (hX : ∀ k i, k < 3 → i < 16 → X (16 * k + i) = A i) (i : Nat) (h : i < 16) : X i = A i ∧ X (16 + i) = A i ∧ X (32 + i) = A i := by
  have a := hX 0 i (by omega) h; have b := hX 1 i (by omega) h; have c := hX 2 i (by omega) h
  simp at a b c; exact ⟨a, b, c⟩

theorem mix_says {X Y A B : Nat → Nat} (hX : ∀ k i, k < 3 → i < 16 → X (16 * k + i) = A i) (hY : ∀ k i, k < 3 → i < 16 → Y (16 * k + i) = B i) (t : Nat) : saysF (mixF X Y t) A ∨ saysF (mixF X Y t) B := by
  have hx := X0 hX
  have hy := X0 hY
  by_cases h1 : t ≤ 16
  · right
    refine ⟨fun hs i hi => ?_, fun _ i hi => ?_⟩
    · rw [hs i hi]; simp only [mixF, if_neg (show ¬ 16 + i < t by omega)]; exact (hy i hi).2.1
    · simp only [mixF, if_neg (show ¬ 32 + i < t by omega)]; exact (hy i hi).2.2
  · by_cases hs : sameF (mixF X Y t)
    · left
      refine ⟨fun _ i hi => ?_, fun h => absurd hs h⟩
      simp only [mixF, if_pos (show i < t by omega)]; exact (hx i hi).1
    · right
      refine ⟨fun h => absurd h hs, fun _ i hi => ?_⟩
      have h2 : ¬ 32 + i < t := fun h2 => hs (fun j hj => by
        simp only [mixF, if_pos (show j < t by omega), if_pos (show 16 + j < t by omega)]; rw [(hx j hj).1, (hx j hj).2.1])
      simp only [mixF, if_neg h2]; exact (hy i hi).2.2

theorem mix_again {X Y A B C Z : Nat → Nat} (hX : ∀ k i, k < 3 → i < 16 → X (16 * k + i) = A i) (hY : ∀ k i, k < 3 → i < 16 → Y (16 * k + i) = B i) (hZ : ∀ k i, k < 3 → i < 16 → Z (16 * k + i) = C i) (t : Nat) (h : saysF (mixF X Y t) C) (k : Nat) : saysF (mixF Z (mixF X Y t) k) C := by
  have hx := X0 hX
  have hy := X0 hY
  have hz := X0 hZ
  by_cases h1 : t ≤ 16
  · have hC : ∀ i, i < 16 → C i = B i := fun i hi => by
      by_cases hs : sameF (mixF X Y t)
      · have e := h.1 hs i hi
        rw [hs i hi] at e
        simp only [mixF, if_neg (show ¬ 16 + i < t by omega)] at e
        rw [← e]; exact (hy i hi).2.1
      · have e := h.2 hs i hi
        simp only [mixF, if_neg (show ¬ 32 + i < t by omega)] at e
        rw [← e]; exact (hy i hi).2.2
    refine ⟨fun hs i hi => ?_, fun _ i hi => ?_⟩
    · rw [hs i hi]
      simp only [mixF, if_neg (show ¬ 16 + i < t by omega)]
      split
      · exact (hz i hi).2.1
      · rw [(hy i hi).2.1, hC i hi]
    · simp only [mixF, if_neg (show ¬ 32 + i < t by omega)]
      split
      · exact (hz i hi).2.2
      · rw [(hy i hi).2.2, hC i hi]
  · by_cases hs : sameF (mixF X Y t)
    · have hC : ∀ i, i < 16 → C i = A i := fun i hi => by
        have e := h.1 hs i hi
        simp only [mixF, if_pos (show i < t by omega)] at e
        rw [← e]; exact (hx i hi).1
      have h0 : ∀ i, i < 16 → mixF Z (mixF X Y t) k i = C i := fun i hi => by
        unfold mixF
        split
        · exact (hz i hi).1
        · rw [if_pos (show i < t by omega), (hx i hi).1, hC i hi]
      have h16 : ∀ i, i < 16 → mixF Z (mixF X Y t) k (16 + i) = C i := fun i hi => by
        have e := hs i hi
        rw [mixF, mixF, if_pos (show i < t by omega), (hx i hi).1] at e
        rw [mixF]
        split
        · exact (hz i hi).2.1
        · rw [mixF, ← e, hC i hi]
      exact ⟨fun _ i hi => h0 i hi, fun hn => absurd (fun i hi => by rw [h0 i hi, h16 i hi]) hn⟩
    · have h32 : t ≤ 32 := by
        by_cases h2 : t ≤ 32
        · exact h2
        · exact absurd (fun j hj => by simp only [mixF, if_pos (show j < t by omega), if_pos (show 16 + j < t by omega)]; rw [(hx j hj).1, (hx j hj).2.1]) hs
      have hC : ∀ i, i < 16 → C i = B i := fun i hi => by
        have e := h.2 hs i hi
        simp only [mixF, if_neg (show ¬ 32 + i < t by omega)] at e
        rw [← e]; exact (hy i hi).2.2
      refine ⟨fun hn i hi => ?_, fun _ i hi => ?_⟩
      · by_cases hik : i < k
        · rw [mixF, if_pos hik]; exact (hz i hi).1
        · rw [mixF, if_neg hik, mixF, if_pos (show i < t by omega), (hx i hi).1, hC i hi]
          have e := hn i hi
          rw [mixF, if_neg hik, mixF, if_pos (show i < t by omega), (hx i hi).1, mixF, if_neg (show ¬ 16 + i < k by omega), mixF] at e
          by_cases hit : 16 + i < t
          · exfalso
            apply hs
            intro j hj
            rw [mixF, mixF, if_pos (show j < t by omega), (hx j hj).1]
            by_cases hjt : 16 + j < t
            · rw [if_pos hjt, (hx j hj).2.1]
            · have e2 := hn j hj
              rw [mixF, if_neg (show ¬ j < k by omega), mixF, if_pos (show j < t by omega), (hx j hj).1, mixF, if_neg (show ¬ 16 + j < k by omega), mixF] at e2
              exact e2
          · rw [if_neg hit, (hy i hi).2.1] at e
            exact e
      · rw [mixF]
        split
        · exact (hz i hi).2.2
        · rw [mixF, if_neg (show ¬ 32 + i < t by omega), (hy i hi).2.2, hC i hi]


def gbF (a b c d : Nat) (i : Nat) : Nat := byteAt (be4 a ++ be4 b ++ be4 c ++ be4 d) i

set_option maxRecDepth 100000 in
theorem sealB_eq (a b c d : Nat) : sealB a b c d = (be4 a ++ be4 b ++ be4 c ++ be4 d) ++ ((be4 a ++ be4 b ++ be4 c ++ be4 d) ++ ((be4 a ++ be4 b ++ be4 c ++ be4 d) ++ List.replicate 16 0)) := rfl

theorem seal_bytes (a b c d : Nat) : ∀ k i, k < 3 → i < 16 → byteAt (sealB a b c d) (16 * k + i) = gbF a b c d i := by
  intro k i hk hi
  rw [sealB_eq]
  unfold gbF byteAt
  have hl : (be4 a ++ be4 b ++ be4 c ++ be4 d).length = 16 := rfl
  generalize be4 a ++ be4 b ++ be4 c ++ be4 d = G at hl
  have h3 : k = 0 ∨ k = 1 ∨ k = 2 := by omega
  rcases h3 with rfl | rfl | rfl
  · simp [List.getD, List.getElem?_append, hl, hi]
  · simp [List.getD, List.getElem?_append, hl, show ¬ 16 + i < 16 by omega, hi]
  · simp [List.getD, List.getElem?_append, hl, show ¬ 32 + i < 16 by omega, show ¬ 32 + i - 16 < 16 by omega, show 32 + i - 16 - 16 = i by omega, hi]

theorem cut_bytes (x y : List UInt8) (t : Nat) (hx : x.length = 64) (ht : t ≤ 64) : byteAt (cutB x y t) = mixF (byteAt x) (byteAt y) t := by
  funext j
  unfold byteAt cutB mixF
  by_cases h : j < t
  · rw [if_pos h]
    simp [List.getD, List.getElem?_append, hx, h, show j < 64 by omega, show min t 64 = t by omega]
  · rw [if_neg h]
    simp [List.getD, List.getElem?_append, hx, h, show min t 64 = t by omega, show t + (j - t) = j by omega]

theorem word4_inj {a b c d a' b' c' d' : Nat} (ha : a < 256) (hb : b < 256) (hc : c < 256) (hd : d < 256) (ha' : a' < 256) (hb' : b' < 256) (hc' : c' < 256) (hd' : d' < 256) (h : word4 a b c d = word4 a' b' c' d') : a = a' ∧ b = b' ∧ c = c' ∧ d = d' := by
  unfold word4 at h; omega

theorem wordAt_inj (l m : List UInt8) (o p : Nat) : wordAt l o = wordAt m p ↔ ∀ j, j < 4 → byteAt l (o + j) = byteAt m (p + j) := by
  constructor
  · intro h
    obtain ⟨h0, h1, h2, h3⟩ := word4_inj (byteAt_lt _ _) (byteAt_lt _ _) (byteAt_lt _ _) (byteAt_lt _ _) (byteAt_lt _ _) (byteAt_lt _ _) (byteAt_lt _ _) (byteAt_lt _ _) h
    intro j hj
    have : j = 0 ∨ j = 1 ∨ j = 2 ∨ j = 3 := by omega
    rcases this with rfl | rfl | rfl | rfl
    · exact h0
    · exact h1
    · exact h2
    · exact h3
  · intro h
    have h0 := h 0 (by omega); have h1 := h 1 (by omega); have h2 := h 2 (by omega); have h3 := h 3 (by omega)
    simp only [Nat.add_zero] at h0
    simp only [wordAt, h0, h1, h2, h3]

theorem word_be4 (n : Nat) (hn : n < 4294967296) : wordAt (be4 n) 0 = n := by
  have h0 : (UInt8.ofNat (n / 16777216)).toNat = n / 16777216 % 256 := UInt8.toNat_ofNat'
  have h1 : (UInt8.ofNat (n / 65536)).toNat = n / 65536 % 256 := UInt8.toNat_ofNat'
  have h2 : (UInt8.ofNat (n / 256)).toNat = n / 256 % 256 := UInt8.toNat_ofNat'
  have h3 : (UInt8.ofNat n).toNat = n % 256 := UInt8.toNat_ofNat'
  show word4 (UInt8.ofNat (n / 16777216)).toNat (UInt8.ofNat (n / 65536)).toNat (UInt8.ofNat (n / 256)).toNat (UInt8.ofNat n).toNat = n
  rw [h0, h1, h2, h3, word4]
  omega

theorem same_iff (l : List UInt8) : sameCopy l 0 1 = true ↔ sameF (byteAt l) := by
  simp only [sameCopy, Bool.and_eq_true, beq_iff_eq, wordAt_inj]
  constructor
  · rintro ⟨⟨⟨h0, h1⟩, h2⟩, h3⟩ i hi
    have : i < 4 ∨ (4 ≤ i ∧ i < 8) ∨ (8 ≤ i ∧ i < 12) ∨ 12 ≤ i := by omega
    rcases this with h | h | h | h
    · have := h0 i h; simpa using this
    · have := h1 (i - 4) (by omega); rw [show 16 * 0 + 4 + (i - 4) = i by omega, show 16 * 1 + 4 + (i - 4) = 16 + i by omega] at this; exact this
    · have := h2 (i - 8) (by omega); rw [show 16 * 0 + 8 + (i - 8) = i by omega, show 16 * 1 + 8 + (i - 8) = 16 + i by omega] at this; exact this
    · have := h3 (i - 12) (by omega); rw [show 16 * 0 + 12 + (i - 12) = i by omega, show 16 * 1 + 12 + (i - 12) = 16 + i by omega] at this; exact this
  · intro h
    refine ⟨⟨⟨fun j hj => ?_, fun j hj => ?_⟩, fun j hj => ?_⟩, fun j hj => ?_⟩
    · have := h j (by omega); rw [show 16 * 0 + j = j by omega, show 16 * 1 + j = 16 + j by omega]; exact this
    · have := h (4 + j) (by omega); rw [show 16 * 0 + 4 + j = 4 + j by omega, show 16 * 1 + 4 + j = 16 + (4 + j) by omega]; exact this
    · have := h (8 + j) (by omega); rw [show 16 * 0 + 8 + j = 8 + j by omega, show 16 * 1 + 8 + j = 16 + (8 + j) by omega]; exact this
    · have := h (12 + j) (by omega); rw [show 16 * 0 + 12 + j = 12 + j by omega, show 16 * 1 + 12 + j = 16 + (12 + j) by omega]; exact this

theorem gbF_at (a b c d j : Nat) (hj : j < 4) : gbF a b c d j = byteAt (be4 a) j ∧ gbF a b c d (4 + j) = byteAt (be4 b) j ∧ gbF a b c d (8 + j) = byteAt (be4 c) j ∧ gbF a b c d (12 + j) = byteAt (be4 d) j := by
  have : j = 0 ∨ j = 1 ∨ j = 2 ∨ j = 3 := by omega
  rcases this with rfl | rfl | rfl | rfl <;> exact ⟨rfl, rfl, rfl, rfl⟩

theorem copy_of (l : List UInt8) (k a b c d : Nat) (ha : a < 4294967296) (hb : b < 4294967296) (hc : c < 4294967296) (hd : d < 4294967296) (h : ∀ i, i < 16 → byteAt l (16 * k + i) = gbF a b c d i) :
    copyV l k = #[.int .u32 a, .int .u32 b, .int .u32 c, .int .u32 d] := by
  have e : ∀ o n, n < 4294967296 → (∀ j, j < 4 → byteAt l (o + j) = byteAt (be4 n) j) → wordAt l o = n := fun o n hn hj => by
    have := (wordAt_inj l (be4 n) o 0).2 (fun j h4 => by rw [hj j h4, Nat.zero_add])
    rw [this, word_be4 n hn]
  unfold copyV
  rw [e (16 * k) a ha (fun j hj => by rw [h j (by omega)]; exact (gbF_at a b c d j hj).1),
    e (16 * k + 4) b hb (fun j hj => by rw [show 16 * k + 4 + j = 16 * k + (4 + j) by omega, h (4 + j) (by omega)]; exact (gbF_at a b c d j hj).2.1),
    e (16 * k + 8) c hc (fun j hj => by rw [show 16 * k + 8 + j = 16 * k + (8 + j) by omega, h (8 + j) (by omega)]; exact (gbF_at a b c d j hj).2.2.1),
    e (16 * k + 12) d hd (fun j hj => by rw [show 16 * k + 12 + j = 16 * k + (12 + j) by omega, h (12 + j) (by omega)]; exact (gbF_at a b c d j hj).2.2.2)]

theorem say_of (l : List UInt8) (a b c d : Nat) (ha : a < 4294967296) (hb : b < 4294967296) (hc : c < 4294967296) (hd : d < 4294967296) (h : saysF (byteAt l) (gbF a b c d)) :
    sayV l = #[.int .u32 a, .int .u32 b, .int .u32 c, .int .u32 d] := by
  unfold sayV
  by_cases hs : sameF (byteAt l)
  · rw [if_pos ((same_iff l).2 hs)]
    exact copy_of l 0 a b c d ha hb hc hd (fun i hi => by rw [show 16 * 0 + i = i by omega]; exact h.1 hs i hi)
  · rw [if_neg (fun e => hs ((same_iff l).1 e))]
    exact copy_of l 2 a b c d ha hb hc hd (fun i hi => h.2 hs i hi)

theorem seal_says (a b c d : Nat) : saysF (byteAt (sealB a b c d)) (gbF a b c d) := by
  have h := X0 (seal_bytes a b c d)
  exact ⟨fun _ i hi => (h i hi).1, fun hn => absurd (fun i hi => by rw [(h i hi).1, (h i hi).2.1]) hn⟩

end Go.Proofs.YteocmhbllckpjaaGreat
