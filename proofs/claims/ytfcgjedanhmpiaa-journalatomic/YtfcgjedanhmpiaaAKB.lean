/- The plain part: a sealed sector, torn anywhere, says the old numbers or the new ones; written anew as it says it, torn anywhere, it says the same. -/
/- What steps make of what is seen: heads, records, pages; what is taken back. Plain. -/
/- Rows that are appended to; the pages that a commit touches. -/
import Derived.Test.YtfcgjedanhmpiaaS5
import Derived.Test.YtfcgjedanhmpiaaAJN
namespace Go.Proofs.Ytfcgjedanhmpiaa
set_option linter.unusedVariables false

def cutB (x y : List UInt8) (t : Nat) : List UInt8 := x.take t ++ y.drop t
theorem length_cutB (x y : List UInt8) (t : Nat) (hx : x.length = 64) (hy : y.length = 64) (ht : t ≤ 64) : (cutB x y t).length = 64 := by simp [cutB]; omega

def sameF (f : Nat → Nat) : Prop := ∀ i, i < 16 → f i = f (16 + i)
def saysF (f C : Nat → Nat) : Prop := (sameF f → ∀ i, i < 16 → f i = C i) ∧ (¬ sameF f → ∀ i, i < 16 → f (32 + i) = C i)
def mixF (f g : Nat → Nat) (t j : Nat) : Nat := if j < t then f j else g j

theorem X0 {X A : Nat → Nat} (hX : ∀ k i, k < 3 → i < 16 → X (16 * k + i) = A i) (i : Nat) (h : i < 16) : X i = A i ∧ X (16 + i) = A i ∧ X (32 + i) = A i := by
  have a := hX 0 i (by omega) h; have b := hX 1 i (by omega) h; have c := hX 2 i (by omega) h
  simp at a b c; exact ⟨a, b, c⟩

theorem mix_says {X Y A B : Nat → Nat} (hX : ∀ k i, k < 3 → i < 16 → X (16 * k + i) = A i) (hY : ∀ k i, k < 3 → i < 16 → Y (16 * k + i) = B i) (t : Nat) : saysF (mixF X Y t) A ∨ saysF (mixF X Y t) B := by
  have hx := X0 hX
  have hy := X0 hY
  by_cases h1 : t ≤ 16
  · right
    refine ⟨fun hs i hi => ?_, fun _ i hi => ?_⟩
    · rw [hs i hi]; simp only [mixF, if_neg (show ¬ 16 + i < t by omega)]; exact (hy i hi).2.1
    · simp only [mixF, if_neg (show ¬ 32 + i < t by omega)]; exact (hy i hi).2.2
  · by_cases hs : sameF (mixF X Y t)
    · left
      refine ⟨fun _ i hi => ?_, fun h => absurd hs h⟩
      simp only [mixF, if_pos (show i < t by omega)]; exact (hx i hi).1
    · right
      refine ⟨fun h => absurd h hs, fun _ i hi => ?_⟩
      have h2 : ¬ 32 + i < t := fun h2 => hs (fun j hj => by
        simp only [mixF, if_pos (show j < t by omega), if_pos (show 16 + j < t by omega)]; rw [(hx j hj).1, (hx j hj).2.1])
      simp only [mixF, if_neg h2]; exact (hy i hi).2.2

theorem mix_again {X Y A B C Z : Nat → Nat} (hX : ∀ k i, k < 3 → i < 16 → X (16 * k + i) = A i) (hY : ∀ k i, k < 3 → i < 16 → Y (16 * k + i) = B i) (hZ : ∀ k i, k < 3 → i < 16 → Z (16 * k + i) = C i) (t : Nat) (h : saysF (mixF X Y t) C) (k : Nat) : saysF (mixF Z (mixF X Y t) k) C := by
  have hx := X0 hX
  have hy := X0 hY
  have hz := X0 hZ
  by_cases h1 : t ≤ 16
  · have hC : ∀ i, i < 16 → C i = B i := fun i hi => by
      by_cases hs : sameF (mixF X Y t)
      · have e := h.1 hs i hi
        rw [hs i hi] at e
        simp only [mixF, if_neg (show ¬ 16 + i < t by omega)] at e
        rw [← e]; exact (hy i hi).2.1
      · have e := h.2 hs i hi
        simp only [mixF, if_neg (show ¬ 32 + i < t by omega)] at e
        rw [← e]; exact (hy i hi).2.2
    refine ⟨fun hs i hi => ?_, fun _ i hi => ?_⟩
    · rw [hs i hi]
      simp only [mixF, if_neg (show ¬ 16 + i < t by omega)]
      split
      · exact (hz i hi).2.1
      · rw [(hy i hi).2.1, hC i hi]
    · simp only [mixF, if_neg (show ¬ 32 + i < t by omega)]
      split
      · exact (hz i hi).2.2
      · rw [(hy i hi).2.2, hC i hi]
  · by_cases hs : sameF (mixF X Y t)
    · have hC : ∀ i, i < 16 → C i = A i := fun i hi => by
        have e := h.1 hs i hi
        simp only [mixF, if_pos (show i < t by omega)] at e
        rw [← e]; exact (hx i hi).1
      have h0 : ∀ i, i < 16 → mixF Z (mixF X Y t) k i = C i := fun i hi => by
        unfold mixF
        split
        · exact (hz i hi).1
        · rw [if_pos (show i < t by omega), (hx i hi).1, hC i hi]
      have h16 : ∀ i, i < 16 → mixF Z (mixF X Y t) k (16 + i) = C i := fun i hi => by
        have e := hs i hi
        rw [mixF, mixF, if_pos (show i < t by omega), (hx i hi).1] at e
        rw [mixF]
        split
        · exact (hz i hi).2.1
        · rw [mixF, ← e, hC i hi]
      exact ⟨fun _ i hi => h0 i hi, fun hn => absurd (fun i hi => by rw [h0 i hi, h16 i hi]) hn⟩
    · have h32 : t ≤ 32 := by
        by_cases h2 : t ≤ 32
        · exact h2
        · exact absurd (fun j hj => by simp only [mixF, if_pos (show j < t by omega), if_pos (show 16 + j < t by omega)]; rw [(hx j hj).1, (hx j hj).2.1]) hs
      have hC : ∀ i, i < 16 → C i = B i := fun i hi => by
        have e := h.2 hs i hi
        simp only [mixF, if_neg (show ¬ 32 + i < t by omega)] at e
        rw [← e]; exact (hy i hi).2.2
      refine ⟨fun hn i hi => ?_, fun _ i hi => ?_⟩
      · by_cases hik : i < k
        · rw [mixF, if_pos hik]; exact (hz i hi).1
        · rw [mixF, if_neg hik, mixF, if_pos (show i < t by omega), (hx i hi).1, hC i hi]
          have e := hn i hi
          rw [mixF, if_neg hik, mixF, if_pos (show i < t by omega), (hx i hi).1, mixF, if_neg (show ¬ 16 + i < k by omega), mixF] at e
          by_cases hit : 16 + i < t
          · exfalso
            apply hs
            intro j hj
            rw [mixF, mixF, if_pos (show j < t by omega), (hx j hj).1]
            by_cases hjt : 16 + j < t
            · rw [if_pos hjt, (hx j hj).2.1]
            · have e2 := hn j hj
              rw [mixF, if_neg (show ¬ j < k by omega), mixF, if_pos (show j < t by omega), (hx j hj).1, mixF, if_neg (show ¬ 16 + j < k by omega), mixF] at e2
              exact e2
          · rw [if_neg hit, (hy i hi).2.1] at e
            exact e
      · rw [mixF]
        split
        · exact (hz i hi).2.2
        · rw [mixF, if_neg (show ¬ 32 + i < t by omega), (hy i hi).2.2, hC i hi]


def gbF (a b c d : Nat) (i : Nat) : Nat := byteAt (be4 a ++ be4 b ++ be4 c ++ be4 d) i

set_option maxRecDepth 100000 in
theorem sealB_eq (a b c d : Nat) : sealB a b c d = (be4 a ++ be4 b ++ be4 c ++ be4 d) ++ ((be4 a ++ be4 b ++ be4 c ++ be4 d) ++ ((be4 a ++ be4 b ++ be4 c ++ be4 d) ++ List.replicate 16 0)) := rfl

theorem seal_bytes (a b c d : Nat) : ∀ k i, k < 3 → i < 16 → byteAt (sealB a b c d) (16 * k + i) = gbF a b c d i := by
  intro k i hk hi
  rw [sealB_eq]
  unfold gbF byteAt
  have hl : (be4 a ++ be4 b ++ be4 c ++ be4 d).length = 16 := rfl
  generalize be4 a ++ be4 b ++ be4 c ++ be4 d = G at hl
  have h3 : k = 0 ∨ k = 1 ∨ k = 2 := by omega
  rcases h3 with rfl | rfl | rfl
  · simp [List.getD, List.getElem?_append, hl, hi]
  · simp [List.getD, List.getElem?_append, hl, show ¬ 16 + i < 16 by omega, hi]
  · simp [List.getD, List.getElem?_append, hl, show ¬ 32 + i < 16 by omega, show ¬ 32 + i - 16 < 16 by omega, show 32 + i - 16 - 16 = i by omega, hi]

theorem cut_bytes (x y : List UInt8) (t : Nat) (hx : x.length = 64) (ht : t ≤ 64) : byteAt (cutB x y t) = mixF (byteAt x) (byteAt y) t := by
  funext j
  unfold byteAt cutB mixF
  by_cases h : j < t
  · rw [if_pos h]
    simp [List.getD, List.getElem?_append, hx, h, show j < 64 by omega, show min t 64 = t by omega]
  · rw [if_neg h]
    simp [List.getD, List.getElem?_append, hx, h, show min t 64 = t by omega, show t + (j - t) = j by omega]

theorem word4_inj {a b c d a' b' c' d' : Nat} (ha : a < 256) (hb : b < 256) (hc : c < 256) (hd : d < 256) (ha' : a' < 256) (hb' : b' < 256) (hc' : c' < 256) (hd' : d' < 256) (h : word4 a b c d = word4 a' b' c' d') : a = a' ∧ b = b' ∧ c = c' ∧ d = d' := by
  unfold word4 at h; omega

theorem wordAt_inj (l m : List UInt8) (o p : Nat) : wordAt l o = wordAt m p ↔ ∀ j, j < 4 → byteAt l (o + j) = byteAt m (p + j) := by
  constructor
  · intro h
    obtain ⟨h0, h1, h2, h3⟩ := word4_inj (byteAt_lt _ _) (byteAt_lt _ _) (byteAt_lt _ _) (byteAt_lt _ _) (byteAt_lt _ _) (byteAt_lt _ _) (byteAt_lt _ _) (byteAt_lt _ _) h
    intro j hj
    have : j = 0 ∨ j = 1 ∨ j = 2 ∨ j = 3 := by omega
    rcases this with rfl | rfl | rfl | rfl
    · exact h0
    · exact h1
    · exact h2
    · exact h3
  · intro h
    have h0 := h 0 (by omega); have h1 := h 1 (by omega); have h2 := h 2 (by omega); have h3 := h 3 (by omega)
    simp only [Nat.add_zero] at h0
    simp only [wordAt, h0, h1, h2, h3]

theorem word_be4 (n : Nat) (hn : n < 4294967296) : wordAt (be4 n) 0 = n := by
  have h0 : (UInt8.ofNat (n / 16777216)).toNat = n / 16777216 % 256 := UInt8.toNat_ofNat'
  have h1 : (UInt8.ofNat (n / 65536)).toNat = n / 65536 % 256 := UInt8.toNat_ofNat'
  have h2 : (UInt8.ofNat (n / 256)).toNat = n / 256 % 256 := UInt8.toNat_ofNat'
  have h3 : (UInt8.ofNat n).toNat = n % 256 := UInt8.toNat_ofNat'
  show word4 (UInt8.ofNat (n / 16777216)).toNat (UInt8.ofNat (n / 65536)).toNat (UInt8.ofNat (n / 256)).toNat (UInt8.ofNat n).toNat = n
  rw [h0, h1, h2, h3, word4]
  omega

theorem same_iff (l : List UInt8) : sameCopy l 0 1 = true ↔ sameF (byteAt l) := by
  simp only [sameCopy, Bool.and_eq_true, beq_iff_eq, wordAt_inj]
  constructor
  · rintro ⟨⟨⟨h0, h1⟩, h2⟩, h3⟩ i hi
    have : i < 4 ∨ (4 ≤ i ∧ i < 8) ∨ (8 ≤ i ∧ i < 12) ∨ 12 ≤ i := by omega
    rcases this with h | h | h | h
    · have := h0 i h; simpa using this
    · have := h1 (i - 4) (by omega); rw [show 16 * 0 + 4 + (i - 4) = i by omega, show 16 * 1 + 4 + (i - 4) = 16 + i by omega] at this; exact this
    · have := h2 (i - 8) (by omega); rw [show 16 * 0 + 8 + (i - 8) = i by omega, show 16 * 1 + 8 + (i - 8) = 16 + i by omega] at this; exact this
    · have := h3 (i - 12) (by omega); rw [show 16 * 0 + 12 + (i - 12) = i by omega, show 16 * 1 + 12 + (i - 12) = 16 + i by omega] at this; exact this
  · intro h
    refine ⟨⟨⟨fun j hj => ?_, fun j hj => ?_⟩, fun j hj => ?_⟩, fun j hj => ?_⟩
    · have := h j (by omega); rw [show 16 * 0 + j = j by omega, show 16 * 1 + j = 16 + j by omega]; exact this
    · have := h (4 + j) (by omega); rw [show 16 * 0 + 4 + j = 4 + j by omega, show 16 * 1 + 4 + j = 16 + (4 + j) by omega]; exact this
    · have := h (8 + j) (by omega); rw [show 16 * 0 + 8 + j = 8 + j by omega, show 16 * 1 + 8 + j = 16 + (8 + j) by omega]; exact this
    · have := h (12 + j) (by omega); rw [show 16 * 0 + 12 + j = 12 + j by omega, show 16 * 1 + 12 + j = 16 + (12 + j) by omega]; exact this

theorem gbF_at (a b c d j : Nat) (hj : j < 4) : gbF a b c d j = byteAt (be4 a) j ∧ gbF a b c d (4 + j) = byteAt (be4 b) j ∧ gbF a b c d (8 + j) = byteAt (be4 c) j ∧ gbF a b c d (12 + j) = byteAt (be4 d) j := by
  have : j = 0 ∨ j = 1 ∨ j = 2 ∨ j = 3 := by omega
  rcases this with rfl | rfl | rfl | rfl <;> exact ⟨rfl, rfl, rfl, rfl⟩

theorem copy_of (l : List UInt8) (k a b c d : Nat) (ha : a < 4294967296) (hb : b < 4294967296) (hc : c < 4294967296) (hd : d < 4294967296) (h : ∀ i, i < 16 → byteAt l (16 * k + i) = gbF a b c d i) :
    copyV l k = #[.int .u32 a, .int .u32 b, .int .u32 c, .int .u32 d] := by
  have e : ∀ o n, n < 4294967296 → (∀ j, j < 4 → byteAt l (o + j) = byteAt (be4 n) j) → wordAt l o = n := fun o n hn hj => by
    have := (wordAt_inj l (be4 n) o 0).2 (fun j h4 => by rw [hj j h4, Nat.zero_add])
    rw [this, word_be4 n hn]
  unfold copyV
  rw [e (16 * k) a ha (fun j hj => by rw [h j (by omega)]; exact (gbF_at a b c d j hj).1),
    e (16 * k + 4) b hb (fun j hj => by rw [show 16 * k + 4 + j = 16 * k + (4 + j) by omega, h (4 + j) (by omega)]; exact (gbF_at a b c d j hj).2.1),
    e (16 * k + 8) c hc (fun j hj => by rw [show 16 * k + 8 + j = 16 * k + (8 + j) by omega, h (8 + j) (by omega)]; exact (gbF_at a b c d j hj).2.2.1),
    e (16 * k + 12) d hd (fun j hj => by rw [show 16 * k + 12 + j = 16 * k + (12 + j) by omega, h (12 + j) (by omega)]; exact (gbF_at a b c d j hj).2.2.2)]

theorem say_of (l : List UInt8) (a b c d : Nat) (ha : a < 4294967296) (hb : b < 4294967296) (hc : c < 4294967296) (hd : d < 4294967296) (h : saysF (byteAt l) (gbF a b c d)) :
    sayV l = #[.int .u32 a, .int .u32 b, .int .u32 c, .int .u32 d] := by
  unfold sayV
  by_cases hs : sameF (byteAt l)
  · rw [if_pos ((same_iff l).2 hs)]
    exact copy_of l 0 a b c d ha hb hc hd (fun i hi => by rw [show 16 * 0 + i = i by omega]; exact h.1 hs i hi)
  · rw [if_neg (fun e => hs ((same_iff l).1 e))]
    exact copy_of l 2 a b c d ha hb hc hd (fun i hi => h.2 hs i hi)

theorem seal_says (a b c d : Nat) : saysF (byteAt (sealB a b c d)) (gbF a b c d) := by
  have h := X0 (seal_bytes a b c d)
  exact ⟨fun _ i hi => (h i hi).1, fun hn => absurd (fun i hi => by rw [(h i hi).1, (h i hi).2.1]) hn⟩

end Go.Proofs.Ytfcgjedanhmpiaa

namespace Go.Proofs.Ytfcgjedanhmpiaa
open Go.ChangeShapes Go.WideShapes Go.ChangeAt Go.RowKit
set_option linter.unusedVariables false

theorem splice_get {α : Type} (L : List α) (o : Nat) (d : List α) (h : o + d.length ≤ L.length) (i : Nat) : (splice L o d)[i]? = if i < o then L[i]? else if i < o + d.length then d[i - o]? else L[i]? := by
  unfold splice
  have h1 : (L.take o).length = o := by rw [List.length_take]; omega
  by_cases c1 : i < o
  · rw [if_pos c1, List.getElem?_append_left (by omega), List.getElem?_take, if_pos c1]
  · rw [if_neg c1, List.getElem?_append_right (by omega), h1]
    by_cases c2 : i < o + d.length
    · rw [if_pos c2, List.getElem?_append_left (by omega)]
    · rw [if_neg c2, List.getElem?_append_right (by omega), List.getElem?_drop]
      congr 1
      omega
theorem grown_get (l : List UInt8) (n i : Nat) (h : i < l.length) : (grownTo l n)[i]? = l[i]? := by
  unfold grownTo
  split
  · rw [List.getElem?_append_left h]
  · rfl
/-- A part of a row of bytes. -/
def subL (l : List UInt8) (o n : Nat) : List UInt8 := (l.drop o).take n
theorem subL_get (l : List UInt8) (o n i : Nat) : (subL l o n)[i]? = if i < n then l[o + i]? else none := by
  unfold subL
  rw [List.getElem?_take, List.getElem?_drop]
theorem subL_length {l : List UInt8} {o n : Nat} (h : o + n ≤ l.length) : (subL l o n).length = n := by
  unfold subL
  rw [List.length_take, List.length_drop]
  omega
theorem subL_wseen_at (l : List UInt8) (o : Nat) (d : List UInt8) (n : Nat) (hn : d.length = n) : subL (wseen l o d) o n = d := by
  apply List.ext_getElem?
  intro i
  have hg : o + d.length ≤ (grownTo l (o + d.length)).length := by rw [length_grownTo]; omega
  rw [subL_get]
  unfold wseen
  rw [splice_get _ _ _ hg]
  by_cases c : i < n
  · rw [if_pos c, if_neg (by omega), if_pos (by omega)]
    congr 1
    omega
  · rw [if_neg c, List.getElem?_eq_none (by omega)]
theorem subL_wseen_off (l : List UInt8) (o : Nat) (d : List UInt8) (a n : Nat) (h : a + n ≤ o ∨ o + d.length ≤ a) (hl : a + n ≤ l.length) : subL (wseen l o d) a n = subL l a n := by
  apply List.ext_getElem?
  intro i
  have hg : o + d.length ≤ (grownTo l (o + d.length)).length := by rw [length_grownTo]; omega
  rw [subL_get, subL_get]
  unfold wseen
  rw [splice_get _ _ _ hg]
  by_cases c : i < n
  · rw [if_pos c, if_pos c]
    rcases h with h | h
    · rw [if_pos (by omega), grown_get _ _ _ (by omega)]
    · rw [if_neg (by omega), if_neg (by omega), grown_get _ _ _ (by omega)]
  · rw [if_neg c, if_neg c]
theorem subL_take (l : List UInt8) (m a n : Nat) (h : a + n ≤ m) : subL (l.take m) a n = subL l a n := by
  apply List.ext_getElem?
  intro i
  rw [subL_get, subL_get]
  by_cases c : i < n
  · rw [if_pos c, if_pos c, List.getElem?_take, if_pos (by omega)]
  · rw [if_neg c, if_neg c]
theorem subL_zero (l : List UInt8) (n : Nat) : subL l 0 n = l.take n := rfl
theorem subL_sub (l : List UInt8) (o n a k : Nat) (h : a + k ≤ n) : subL (subL l o n) a k = subL l (o + a) k := by
  apply List.ext_getElem?
  intro i
  rw [subL_get, subL_get, subL_get]
  by_cases c : i < k
  · rw [if_pos c, if_pos c, if_pos (by omega)]
    congr 1
    omega
  · rw [if_neg c, if_neg c]
theorem hdw_seal {l : List UInt8} {a b c d : Nat} (ha : a < 4294967296) (hb : b < 4294967296) (hc : c < 4294967296) (hd' : d < 4294967296) (h : l.take 64 = sealB a b c d) : hdw l 0 = a ∧ hdw l 1 = b ∧ hdw l 2 = c ∧ hdw l 3 = d := by
  have hl : ¬ l.length < 64 := by
    have := congrArg List.length h
    rw [List.length_take, sealB_length] at this
    omega
  have e := hd_eq l
  unfold hd at e
  rw [if_neg hl, h, say_of _ a b c d ha hb hc hd' (seal_says _ _ _ _)] at e
  simp only [Array.mk.injEq, List.cons.injEq, Value.int.injEq, true_and, and_true] at e
  omega
theorem bstr_data (l : List UInt8) : (bstr l).data.toList = l := by simp [bstr]
theorem bstr_size (l : List UInt8) : (bstr l).size = l.length := by simp [bstr, ByteArray.size]
theorem neDJ : nmD ≠ nmJ := by decide
theorem set_same (f : Vw) (nm : ByteArray) (l : List UInt8) : f.set nm l nm = l := if_pos rfl
theorem set_other (f : Vw) {nm nm' : ByteArray} (h : nm' ≠ nm) (l : List UInt8) : f.set nm l nm' = f nm' := if_neg h
/-- A step that leaves a file alone. -/
def Stp.off (nm : ByteArray) : Stp → Prop
  | .put nm' _ _ => nm ≠ nm'
  | .cut nm' _ => nm ≠ nm'
  | .sync _ => True
theorem on_off {f : Vw} {nm : ByteArray} {s : Stp} (h : s.off nm) : s.on f nm = f nm := by
  cases s with
  | put nm' a d => exact set_other f h _
  | cut nm' n => exact set_other f h _
  | sync nm' => rfl
theorem on_putJ (f : Vw) (d : List UInt8) : (Stp.put nmJ 0 (bstr d)).on f nmJ = wseen (f nmJ) 0 d := by
  show Vw.set f nmJ (wseen (f nmJ) 0 (bstr d).data.toList) nmJ = _
  rw [set_same, bstr_data]
theorem on_cutD (f : Vw) {n : Nat} (h : n ≤ (f nmD).length) : (Stp.cut nmD n).on f nmD = (f nmD).take n := by
  show Vw.set f nmD (rsz (f nmD) n) nmD = _
  rw [set_same]
  unfold rsz
  rw [if_pos h]
theorem vw_off {f : Vw} {S : Nat → Stp} {nm : ByteArray} : ∀ {k : Nat}, (∀ j, j < k → (S j).off nm) → vw f S k nm = f nm
  | 0, _ => rfl
  | k + 1, h => (on_off (h k (Nat.lt_succ_self k))).trans (vw_off (fun j hj => h j (by omega)))
theorem catS_lt {S S' : Nat → Stp} {n k : Nat} (h : k < n) : catS S n S' k = S k := if_pos h
theorem catS_ge {S S' : Nat → Stp} {n : Nat} (k : Nat) : catS S n S' (n + k) = S' k := by
  unfold catS
  rw [if_neg (by omega), Nat.add_sub_cancel_left]
theorem vw_le {f : Vw} {S S' : Nat → Stp} {n : Nat} : ∀ {k : Nat}, k ≤ n → vw f (catS S n S') k = vw f S k
  | 0, _ => rfl
  | k + 1, h => by
    show (catS S n S' k).on (vw f (catS S n S') k) = (S k).on (vw f S k)
    rw [catS_lt (by omega), vw_le (by omega)]
theorem vw_add {f : Vw} {S S' : Nat → Stp} {n : Nat} : ∀ (k : Nat), vw f (catS S n S') (n + k) = vw (vw f S n) S' k
  | 0 => vw_le (Nat.le_refl _)
  | k + 1 => by
    show (catS S n S' (n + k)).on (vw f (catS S n S') (n + k)) = (S' k).on (vw (vw f S n) S' k)
    rw [catS_ge, vw_add k]
/-- A record's bytes. -/
def recB (n : Nat) (p : List UInt8) : List UInt8 := be4 n ++ (List.replicate 60 0 ++ p)
theorem recB_length (n : Nat) {p : List UInt8} (h : p.length = 256) : (recB n p).length = 320 := by simp [recB, be4, h]
def recS (T : Nat → Nat) (P : Nat → List UInt8) : Nat → Stp := fun k => .put nmJ (64 + 320 * k) (bstr (recB (T k) (P k)))
/-- The steps that lay pages aside. -/
def asdS (l : List UInt8) (old m : Nat) (T : Nat → Nat) (P : Nat → List UInt8) : Nat → Stp := catS (catS (renS l) 2 (recS T P)) (2 + m) (tailS (m + 1) old)
theorem take_wseen0 (l d : List UInt8) (h : d.length = 64) : (wseen l 0 d).take 64 = d := by
  have := subL_wseen_at l 0 d 64 h
  rwa [subL_zero] at this
theorem ren_view (f : Vw) (k : Nat) (hk : 1 ≤ k) (h2 : k ≤ 2) : (vw f (renS (f nmJ)) k nmJ).take 64 = sealB (hdw (f nmJ) 0) (hdw (f nmJ) 1) (hdw (f nmJ) 2) (hdw (f nmJ) 3) ∧ (vw f (renS (f nmJ)) k nmJ).length = max (f nmJ).length 64 ∧ vw f (renS (f nmJ)) k nmD = f nmD ∧ ∀ a n, 64 ≤ a → a + n ≤ (f nmJ).length → subL (vw f (renS (f nmJ)) k nmJ) a n = subL (f nmJ) a n := by
  have hs := sealB_length (hdw (f nmJ) 0) (hdw (f nmJ) 1) (hdw (f nmJ) 2) (hdw (f nmJ) 3)
  have e : vw f (renS (f nmJ)) k = f.set nmJ (wseen (f nmJ) 0 (sealB (hdw (f nmJ) 0) (hdw (f nmJ) 1) (hdw (f nmJ) 2) (hdw (f nmJ) 3))) := by
    have e1 : vw f (renS (f nmJ)) 1 = f.set nmJ (wseen (f nmJ) 0 (sealB (hdw (f nmJ) 0) (hdw (f nmJ) 1) (hdw (f nmJ) 2) (hdw (f nmJ) 3))) := by
      show f.set nmJ (wseen (f nmJ) 0 (hdS (f nmJ)).data.toList) = _
      unfold hdS
      rw [bstr_data]
    rcases (show k = 1 ∨ k = 2 by omega) with rfl | rfl
    · exact e1
    · exact e1
  rw [e, set_same, set_other f neDJ]
  refine ⟨take_wseen0 _ _ hs, by rw [length_wseen, hs], rfl, fun a n h1 h2 => subL_wseen_off _ _ _ _ _ (.inr (by rw [hs, Nat.zero_add]; exact h1)) h2⟩
theorem rec_view (f : Vw) (T : Nat → Nat) (P : Nat → List UInt8) {m : Nat} (hP : ∀ k, k < m → (P k).length = 256) (hf : 64 ≤ (f nmJ).length) : ∀ k, k ≤ m →
    (vw f (recS T P) k nmJ).take 64 = (f nmJ).take 64 ∧ (vw f (recS T P) k nmJ).length = max (f nmJ).length (64 + 320 * k) ∧ (∀ j, j < k → subL (vw f (recS T P) k nmJ) (64 + 320 * j) 320 = recB (T j) (P j)) ∧ vw f (recS T P) k nmD = f nmD
  | 0, _ => ⟨rfl, by show (f nmJ).length = _; omega, fun j hj => by omega, rfl⟩
  | k + 1, hk => by
    obtain ⟨h1, h2, h3, h4⟩ := rec_view f T P hP hf k (by omega)
    have e : vw f (recS T P) (k + 1) = (vw f (recS T P) k).set nmJ (wseen (vw f (recS T P) k nmJ) (64 + 320 * k) (recB (T k) (P k))) := by
      show (vw f (recS T P) k).set nmJ (wseen (vw f (recS T P) k nmJ) (64 + 320 * k) (bstr (recB (T k) (P k))).data.toList) = _
      rw [bstr_data]
    have hl := recB_length (T k) (hP k (by omega))
    rw [e, set_same, set_other _ neDJ]
    refine ⟨?_, by rw [length_wseen, hl, h2]; omega, fun j hj => ?_, h4⟩
    · rw [← subL_zero, subL_wseen_off _ _ _ _ _ (.inl (by omega)) (by rw [h2]; omega), subL_zero]; exact h1
    · by_cases c : j = k
      · subst c; exact subL_wseen_at _ _ _ _ hl
      · rw [subL_wseen_off _ _ _ _ _ (.inl (by omega)) (by rw [h2]; omega)]
        exact h3 j (by omega)
/-- A journal that is hot: what lies in it. -/
structure Hotv (l : List UInt8) (old m : Nat) (T : Nat → Nat) (P : Nat → List UInt8) : Prop where
  head : l.take 64 = sealB (m + 1) old 0 0
  recs : ∀ j, j < m → subL l (64 + 320 * j) 320 = recB (T j) (P j)
  len : 64 + 320 * m ≤ l.length
/-- The same, its head told by what it says. -/
structure Hotw (l : List UInt8) (old m : Nat) (T : Nat → Nat) (P : Nat → List UInt8) : Prop where
  hd : hdw l 0 = m + 1 ∧ hdw l 1 = old ∧ hdw l 2 = 0 ∧ hdw l 3 = 0
  recs : ∀ j, j < m → subL l (64 + 320 * j) 320 = recB (T j) (P j)
  len : 64 + 320 * m ≤ l.length
theorem asd_ren (f : Vw) {old m : Nat} {T : Nat → Nat} {P : Nat → List UInt8} {k : Nat} (hk : k ≤ 2) : vw f (asdS (f nmJ) old m T P) k = vw f (renS (f nmJ)) k := by
  unfold asdS
  rw [vw_le (by omega), vw_le hk]
theorem asd_rec (f : Vw) {old m : Nat} {T : Nat → Nat} {P : Nat → List UInt8} {k : Nat} (hk : k ≤ m) : vw f (asdS (f nmJ) old m T P) (2 + k) = vw (vw f (renS (f nmJ)) 2) (recS T P) k := by
  unfold asdS
  rw [vw_le (by omega), vw_add]
theorem asd_tail (f : Vw) {old m : Nat} {T : Nat → Nat} {P : Nat → List UInt8} (k : Nat) : vw f (asdS (f nmJ) old m T P) (2 + m + k) = vw (vw (vw f (renS (f nmJ)) 2) (recS T P) m) (tailS (m + 1) old) k := by
  unfold asdS
  rw [vw_add, vw_add]
theorem asd_db (f : Vw) {l : List UInt8} {old m : Nat} {T : Nat → Nat} {P : Nat → List UInt8} (k : Nat) : vw f (asdS l old m T P) k nmD = f nmD := by
  refine vw_off (fun j _ => ?_)
  unfold asdS catS
  split
  · split
    · match j with
      | 0 => exact neDJ
      | _ + 1 => trivial
    · exact neDJ
  · match j - (2 + m) with
    | 0 => trivial
    | 1 => exact neDJ
    | _ + 2 => trivial
theorem asd_head (f : Vw) {old m : Nat} {T : Nat → Nat} {P : Nat → List UInt8} (hP : ∀ k, k < m → (P k).length = 256) {k : Nat} (h1 : 1 ≤ k) (hk : k ≤ 2 + m + 1) : (vw f (asdS (f nmJ) old m T P) k nmJ).take 64 = sealB (hdw (f nmJ) 0) (hdw (f nmJ) 1) (hdw (f nmJ) 2) (hdw (f nmJ) 3) := by
  have r2 := ren_view f 2 (by omega) (by omega)
  have hr := rec_view (vw f (renS (f nmJ)) 2) T P hP (by rw [r2.2.1]; omega)
  by_cases c : k ≤ 2
  · rw [asd_ren f c]; exact (ren_view f k h1 c).1
  · by_cases c2 : k ≤ 2 + m
    · obtain ⟨j, rfl⟩ : ∃ j, k = 2 + j := ⟨k - 2, by omega⟩
      rw [asd_rec f (by omega), (hr j (by omega)).1]; exact r2.1
    · obtain rfl : k = 2 + m + 1 := by omega
      rw [asd_tail]
      show (vw (vw f (renS (f nmJ)) 2) (recS T P) m nmJ).take 64 = _
      rw [(hr m (Nat.le_refl _)).1]; exact r2.1
theorem asd_cold (f : Vw) {old m : Nat} {T : Nat → Nat} {P : Nat → List UInt8} (hP : ∀ k, k < m → (P k).length = 256) {k : Nat} (hk : k ≤ 2 + m + 1) : hdw (vw f (asdS (f nmJ) old m T P) k nmJ) 0 = hdw (f nmJ) 0 := by
  rcases Nat.eq_zero_or_pos k with rfl | h1
  · rfl
  · exact (hdw_seal (hdw_lt _ _) (hdw_lt _ _) (hdw_lt _ _) (hdw_lt _ _) (asd_head f hP h1 hk)).1
theorem asd_end (f : Vw) {old m : Nat} {T : Nat → Nat} {P : Nat → List UInt8} (hP : ∀ k, k < m → (P k).length = 256) {k : Nat} (hk : 2 ≤ k) (h3 : k ≤ 3) : Hotv (vw f (asdS (f nmJ) old m T P) (2 + m + k) nmJ) old m T P := by
  have r2 := ren_view f 2 (by omega) (by omega)
  have hr := rec_view (vw f (renS (f nmJ)) 2) T P hP (by rw [r2.2.1]; omega) m (Nat.le_refl _)
  have hs := sealB_length (m + 1) old 0 0
  rw [asd_tail]
  have e : vw (vw (vw f (renS (f nmJ)) 2) (recS T P) m) (tailS (m + 1) old) k nmJ = wseen (vw (vw f (renS (f nmJ)) 2) (recS T P) m nmJ) 0 (sealB (m + 1) old 0 0) := by
    have e2 : vw (vw (vw f (renS (f nmJ)) 2) (recS T P) m) (tailS (m + 1) old) 2 nmJ = wseen (vw (vw f (renS (f nmJ)) 2) (recS T P) m nmJ) 0 (sealB (m + 1) old 0 0) := by
      exact on_putJ _ _
    rcases (show k = 2 ∨ k = 3 by omega) with rfl | rfl
    · exact e2
    · exact e2
  rw [e]
  refine ⟨take_wseen0 _ _ hs, fun j hj => ?_, ?_⟩
  · rw [subL_wseen_off _ _ _ _ _ (.inr (by rw [hs]; omega)) (by rw [hr.2.1]; omega)]
    exact hr.2.2.1 j hj
  · rw [length_wseen, hr.2.1, hs]; omega
theorem asd_len (f : Vw) {old m : Nat} {T : Nat → Nat} {P : Nat → List UInt8} (hP : ∀ k, k < m → (P k).length = 256) {k : Nat} (h1 : 1 ≤ k) (hk : k ≤ 2 + m + 1) : 64 ≤ (vw f (asdS (f nmJ) old m T P) k nmJ).length := by
  have := congrArg List.length (asd_head f (old := old) (T := T) hP h1 hk)
  rw [List.length_take, sealB_length] at this
  omega
theorem asd_ok (f : Vw) {old m : Nat} {T : Nat → Nat} {P : Nat → List UInt8} (hP : ∀ k, k < m → (P k).length = 256) (hm : m ≤ 15) (k : Nat) (hk : k < 2 + m + 3) : (asdS (f nmJ) old m T P k).ok (vw f (asdS (f nmJ) old m T P) k) := by
  generalize vw f (asdS (f nmJ) old m T P) k = V
  unfold asdS catS
  split
  · split
    · match k with
      | 0 => exact ⟨.inr rfl, by show 0 < (bstr _).size; rw [bstr_size, sealB_length]; omega, by show (bstr _).size ≤ 2000; rw [bstr_size, sealB_length]; omega, by show 0 + (bstr _).size ≤ 6100; rw [bstr_size, sealB_length]; omega⟩
      | _ + 1 => trivial
    · refine ⟨.inr rfl, ?_, ?_, ?_⟩ <;> rw [bstr_size, recB_length _ (hP _ (by omega))] <;> omega
  · match k - (2 + m) with
    | 0 => trivial
    | 1 => refine ⟨.inr rfl, ?_, ?_, ?_⟩ <;> rw [bstr_size, sealB_length] <;> omega
    | _ + 2 => trivial
/-- Behind the head that makes it hot every step has room. -/
theorem asd_stop (f : Vw) {r : Int} {old m k : Nat} {T : Nat → Nat} {P : Nat → List UInt8} (hk : k < 2 + m + 3) (hn : ¬ (asdS (f nmJ) old m T P k).fits r (vw f (asdS (f nmJ) old m T P) k)) : k ≤ 2 + m + 1 := by
  rcases Nat.lt_or_ge (2 + m + 1) k with c | c
  · exfalso
    obtain rfl : k = 2 + m + 2 := by omega
    apply hn
    have : asdS (f nmJ) old m T P (2 + m + 2) = .sync nmJ := by
      unfold asdS
      rw [catS_ge]
      rfl
    rw [this]
    trivial
  · exact c
/-- Pages written into the database. -/
theorem pgs_view (f : Vw) (N : Nat → Nat) (L : Nat → List UInt8) (n : Nat) (hL : ∀ j, j < n → (L j).length = 256) (hN : ∀ j, j < n → 1 ≤ N j) : ∀ k, k ≤ n →
    (f nmD).length ≤ (vw f (pgS N L) k nmD).length ∧ (∀ j, j < k → 256 * N j ≤ (vw f (pgS N L) k nmD).length) ∧ (∀ B, (f nmD).length ≤ B → (∀ j, j < n → 256 * N j ≤ B) → (vw f (pgS N L) k nmD).length ≤ B) ∧
    (∀ p, 1 ≤ p → (∃ j, j < k ∧ N j = p ∧ pgL (vw f (pgS N L) k nmD) p = L j) ∨ ((∀ j, j < k → N j ≠ p) ∧ (256 * p ≤ (f nmD).length → pgL (vw f (pgS N L) k nmD) p = pgL (f nmD) p))) ∧ vw f (pgS N L) k nmJ = f nmJ
  | 0, _ => ⟨Nat.le_refl _, fun j hj => by omega, fun B h _ => h, fun p hp => .inr ⟨fun j hj => by omega, fun _ => rfl⟩, rfl⟩
  | k + 1, hk => by
    obtain ⟨h1, h2, h3, h4, h5⟩ := pgs_view f N L n hL hN k (by omega)
    have e : vw f (pgS N L) (k + 1) = (vw f (pgS N L) k).set nmD (wseen (vw f (pgS N L) k nmD) (256 * (N k - 1)) (L k)) := by
      show (vw f (pgS N L) k).set nmD (wseen (vw f (pgS N L) k nmD) (256 * (N k - 1)) (bstr (L k)).data.toList) = _
      rw [bstr_data]
    have hl := hL k (by omega)
    have hn := hN k (by omega)
    rw [e, set_same, set_other _ (Ne.symm neDJ)]
    generalize hV : vw f (pgS N L) k nmD = V at h1 h2 h3 h4
    have hw : (wseen V (256 * (N k - 1)) (L k)).length = max V.length (256 * N k) := by rw [length_wseen, hl]; omega
    rw [hw]
    refine ⟨by omega, fun j hj => ?_, fun B hB hB2 => ?_, fun p hp => ?_, h5⟩
    · by_cases c : j = k
      · subst c; omega
      · have := h2 j (by omega); omega
    · have := h3 B hB hB2
      have := hB2 k (by omega)
      omega
    · by_cases c : N k = p
      · exact .inl ⟨k, by omega, c, by subst c; exact subL_wseen_at _ _ _ _ hl⟩
      · have hoff : 256 * p ≤ V.length → pgL (wseen V (256 * (N k - 1)) (L k)) p = pgL V p := fun hp2 => subL_wseen_off _ _ _ _ _ (by rw [hl]; omega) (by omega)
        rcases h4 p hp with ⟨j, g1, g2, g3⟩ | ⟨g1, g2⟩
        · refine .inl ⟨j, by omega, g2, ?_⟩
          rw [hoff (by have := h2 j g1; rw [g2] at this; exact this)]; exact g3
        · refine .inr ⟨fun j hj => ?_, fun hp2 => ?_⟩
          · by_cases c2 : j = k
            · subst c2; exact c
            · exact g1 j (by omega)
          · rw [hoff (by omega)]; exact g2 hp2
theorem pgs_ok (f : Vw) (N : Nat → Nat) (L : Nat → List UInt8) (n : Nat) (hL : ∀ j, j < n → (L j).length = 256) (hN : ∀ j, j < n → 1 ≤ N j ∧ N j ≤ 20) (k : Nat) (hk : k < n) : (pgS N L k).ok f := by
  have := hN k hk
  refine ⟨.inl rfl, ?_, ?_, ?_⟩ <;> rw [bstr_size, hL k hk] <;> omega
/-- What a change leaves of the database. -/
structure Aft (db db' : List UInt8) (count n : Nat) (N : Nat → Nat) (L : Nat → List UInt8) : Prop where
  len : db'.length = 256 * count
  pgs : ∀ p, 1 ≤ p → p ≤ count → (∃ j, j < n ∧ N j = p ∧ pgL db' p = L j) ∨ ((∀ j, j < n → N j ≠ p) ∧ (256 * p ≤ db.length → pgL db' p = pgL db p))
def chgS (count n : Nat) (N : Nat → Nat) (L : Nat → List UInt8) : Nat → Stp := catS (pgS N L) n (endS count)
theorem chg_pgs (f : Vw) {count n : Nat} {N : Nat → Nat} {L : Nat → List UInt8} {k : Nat} (hk : k ≤ n) : vw f (chgS count n N L) k = vw f (pgS N L) k := vw_le hk
theorem chg_end (f : Vw) {count n : Nat} {N : Nat → Nat} {L : Nat → List UInt8} (hL : ∀ j, j < n → (L j).length = 256) (hN : ∀ j, j < n → 1 ≤ N j) (hc : 256 * count ≤ (f nmD).length ∨ ∃ j, j < n ∧ N j = count) :
    Aft (f nmD) (vw f (chgS count n N L) (n + 4) nmD) count n N L ∧ hdw (vw f (chgS count n N L) (n + 4) nmJ) 0 = 0 ∧
    (∀ k, 1 ≤ k → k ≤ 4 → vw f (chgS count n N L) (n + k) nmD = (vw f (pgS N L) n nmD).take (256 * count)) ∧ 256 * count ≤ (vw f (pgS N L) n nmD).length := by
  obtain ⟨h1, h2, h3, h4, h5⟩ := pgs_view f N L n hL hN n (Nat.le_refl _)
  have hlen : 256 * count ≤ (vw f (pgS N L) n nmD).length := by
    rcases hc with hc | ⟨j, hj, e⟩
    · omega
    · have := h2 j hj; rw [e] at this; exact this
  have e1 : vw (vw f (pgS N L) n) (endS count) 1 nmD = (vw f (pgS N L) n nmD).take (256 * count) := by
    exact on_cutD _ hlen
  have e3 : vw (vw f (pgS N L) n) (endS count) 3 nmD = (vw f (pgS N L) n nmD).take (256 * count) := by
    exact (on_off (s := .put nmJ 0 (bstr (sealB 0 0 0 0))) neDJ).trans e1
  have ek : ∀ k, 1 ≤ k → k ≤ 4 → vw f (chgS count n N L) (n + k) nmD = (vw f (pgS N L) n nmD).take (256 * count) := fun k k1 k2 => by
    show vw f (catS (pgS N L) n (endS count)) (n + k) nmD = _
    rw [vw_add]
    rcases (show k = 1 ∨ k = 2 ∨ k = 3 ∨ k = 4 by omega) with rfl | rfl | rfl | rfl
    · exact e1
    · exact e1
    · exact e3
    · exact e3
  refine ⟨?_, ?_, ek, hlen⟩
  · rw [ek 4 (by omega) (by omega)]
    refine ⟨by rw [List.length_take]; omega, fun p p1 p2 => ?_⟩
    have ht : pgL ((vw f (pgS N L) n nmD).take (256 * count)) p = pgL (vw f (pgS N L) n nmD) p := subL_take _ _ _ _ (by omega)
    rw [ht]
    exact h4 p p1
  · show hdw (vw f (catS (pgS N L) n (endS count)) (n + 4) nmJ) 0 = 0
    rw [vw_add]
    have : (vw (vw f (pgS N L) n) (endS count) 4 nmJ).take 64 = sealB 0 0 0 0 := by
      refine (congrArg (List.take 64) (on_putJ _ _)).trans ?_
      exact take_wseen0 _ _ (sealB_length _ _ _ _)
    exact (hdw_seal (by omega) (by omega) (by omega) (by omega) this).1
theorem chg_ok (f : Vw) {count n : Nat} {N : Nat → Nat} {L : Nat → List UInt8} (hL : ∀ j, j < n → (L j).length = 256) (hN : ∀ j, j < n → 1 ≤ N j ∧ N j ≤ 20) (hc : 256 * count ≤ (f nmD).length ∨ ∃ j, j < n ∧ N j = count) (hcount : count ≤ 20) (k : Nat) (hk : k < n + 4) :
    (chgS count n N L k).ok (vw f (chgS count n N L) k) := by
  have he := chg_end f hL (fun j hj => (hN j hj).1) hc
  by_cases c : k < n
  · unfold chgS
    rw [catS_lt c]
    exact pgs_ok _ N L n hL hN k c
  · obtain ⟨j, rfl⟩ : ∃ j, k = n + j := ⟨k - n, by omega⟩
    have e : chgS count n N L (n + j) = endS count j := catS_ge j
    rw [e]
    rcases (show j = 0 ∨ j = 1 ∨ j = 2 ∨ j = 3 by omega) with rfl | rfl | rfl | rfl
    · refine ⟨.inl rfl, by omega, ?_⟩
      rw [Nat.add_zero, chg_pgs f (Nat.le_refl _)]
      exact he.2.2.2
    · trivial
    · refine ⟨.inr rfl, ?_, ?_, ?_⟩ <;> rw [bstr_size, sealB_length] <;> omega
    · trivial
/-- Of the steps of a change only pages may want for room, if the journal has its head. -/
theorem chg_fits (f : Vw) {r : Int} {count n : Nat} {N : Nat → Nat} {L : Nat → List UInt8} (hL : ∀ j, j < n → (L j).length = 256) (hN : ∀ j, j < n → 1 ≤ N j) (hJ : 64 ≤ (f nmJ).length) (k : Nat) (hk : k < n + 4) (h : n ≤ k ∨ 256 * N k ≤ (f nmD).length) :
    (chgS count n N L k).fits r (vw f (chgS count n N L) k) := by
  by_cases c : k < n
  · obtain ⟨h1, h2, h3, h4, h5⟩ := pgs_view f N L n hL hN k (by omega)
    rw [chg_pgs f (Nat.le_of_lt c)]
    unfold chgS
    rw [catS_lt c]
    refine .inl ?_
    rw [bstr_size, hL k c]
    have := hN k c
    omega
  · obtain ⟨j, rfl⟩ : ∃ j, k = n + j := ⟨k - n, by omega⟩
    have e : chgS count n N L (n + j) = endS count j := catS_ge j
    rw [e]
    rcases (show j = 0 ∨ j = 1 ∨ j = 2 ∨ j = 3 by omega) with rfl | rfl | rfl | rfl
    · trivial
    · trivial
    · refine .inl ?_
      rw [bstr_size, sealB_length]
      show 0 + 64 ≤ (vw f (catS (pgS N L) n (endS count)) (n + 2) nmJ).length
      rw [vw_add]
      have : vw (vw f (pgS N L) n) (endS count) 2 nmJ = f nmJ := by
        exact (on_off (s := .cut nmD (256 * count)) (Ne.symm neDJ)).trans (pgs_view f N L n hL hN n (Nat.le_refl _)).2.2.2.2
      rw [this]
      omega
    · trivial
/-- A database is its pages. -/
theorem db_ext {l l' : List UInt8} {c : Nat} (h : l.length = 256 * c) (h' : l'.length = 256 * c) (hp : ∀ p, 1 ≤ p → p ≤ c → pgL l p = pgL l' p) : l = l' := by
  apply List.ext_getElem?
  intro i
  by_cases hi : i < 256 * c
  · have e := congrArg (fun x => x[i % 256]?) (hp (i / 256 + 1) (by omega) (by omega))
    have g : ∀ x : List UInt8, (pgL x (i / 256 + 1))[i % 256]? = x[i]? := fun x => by
      have := subL_get x (256 * (i / 256 + 1 - 1)) 256 (i % 256)
      rw [if_pos (Nat.mod_lt _ (by omega)), show 256 * (i / 256 + 1 - 1) + i % 256 = i by omega] at this
      exact this
    simpa only [g] using e
  · rw [List.getElem?_eq_none (by omega), List.getElem?_eq_none (by omega)]
theorem getD_at {l : List Nat} {k : Nat} (h : k < l.length) : l.getD k 0 = l[k] := by simp [List.getD, h]
/-- The pages that a commit changes or cuts off. -/
def touchL (old count n : Nat) (N : Nat → Nat) : List Nat := ((List.range n).map N).filter (fun x => decide (x ≤ old)) ++ List.range' (count + 1) (old - count)
/-- Pages that rise, from 1 to the count. -/
structure Rise (count n : Nat) (N : Nat → Nat) : Prop where
  up : ∀ i j, i < j → j < n → N i < N j
  low : ∀ j, j < n → 1 ≤ N j ∧ N j ≤ count
theorem mem_touch {old count n : Nat} {N : Nat → Nat} {p : Nat} : p ∈ touchL old count n N ↔ (p ≤ old ∧ ∃ j, j < n ∧ N j = p) ∨ (count < p ∧ p ≤ old) := by
  unfold touchL
  simp only [List.mem_append, List.mem_filter, List.mem_map, List.mem_range, List.mem_range'_1, decide_eq_true_eq]
  constructor
  · rintro (⟨⟨j, h1, h2⟩, h3⟩ | h)
    · exact .inl ⟨h3, j, h1, h2⟩
    · exact .inr (by omega)
  · rintro (⟨h3, j, h1, h2⟩ | h)
    · exact .inl ⟨⟨j, h1, h2⟩, h3⟩
    · exact .inr (by omega)
theorem touch_up {old count n : Nat} {N : Nat → Nat} (h : Rise count n N) : (touchL old count n N).Pairwise (· < ·) := by
  unfold touchL
  rw [List.pairwise_append]
  refine ⟨List.Pairwise.filter _ ?_, ?_, fun a ha b hb => ?_⟩
  · rw [List.pairwise_iff_getElem]
    intro i j hi hj hij
    simp only [List.length_map, List.length_range] at hi hj
    simpa using h.up i j hij hj
  · exact List.pairwise_lt_range'
  · simp only [List.mem_filter, List.mem_map, List.mem_range] at ha
    obtain ⟨⟨j, h1, h2⟩, _⟩ := ha
    have := h.low j h1
    rw [List.mem_range'_1] at hb
    omega
theorem touch_in {old count n : Nat} {N : Nat → Nat} (h : Rise count n N) {p : Nat} (hp : p ∈ touchL old count n N) : 1 ≤ p ∧ p ≤ old := by
  rcases mem_touch.1 hp with ⟨h1, j, h2, rfl⟩ | h1
  · exact ⟨(h.low j h2).1, h1⟩
  · omega
theorem up_get {l : List Nat} (h : l.Pairwise (· < ·)) (h1 : ∀ p ∈ l, 1 ≤ p) : ∀ k (hk : k < l.length), k + 1 ≤ l[k]
  | 0, hk => h1 _ (List.getElem_mem hk)
  | k + 1, hk => by
    have h2 := up_get h h1 k (by omega)
    have h3 := (List.pairwise_iff_getElem.1 h) k (k + 1) (by omega) hk (by omega)
    omega
theorem touch_few {old count n : Nat} {N : Nat → Nat} (h : Rise count n N) : (touchL old count n N).length ≤ old := by
  rcases Nat.eq_zero_or_pos (touchL old count n N).length with e | e
  · omega
  · have h1 := up_get (touch_up h) (fun p hp => (touch_in (old := old) h hp).1) ((touchL old count n N).length - 1) (by omega)
    have h2 := (touch_in (old := old) h (List.getElem_mem (l := touchL old count n N) (n := (touchL old count n N).length - 1) (by omega))).2
    omega
def touT (old count n : Nat) (N : Nat → Nat) : Nat → Nat := fun k => (touchL old count n N).getD k 0
theorem touT_mem {old count n : Nat} {N : Nat → Nat} {k : Nat} (hk : k < (touchL old count n N).length) : touT old count n N k ∈ touchL old count n N := by
  unfold touT
  rw [getD_at hk]
  exact List.getElem_mem hk
theorem touT_rise {old count n : Nat} {N : Nat → Nat} (h : Rise count n N) : Rise old (touchL old count n N).length (touT old count n N) where
  up := fun i j hij hj => by
    unfold touT
    rw [getD_at hj, getD_at (by omega)]
    exact (List.pairwise_iff_getElem.1 (touch_up h)) i j (by omega) hj hij
  low := fun j hj => touch_in h (touT_mem hj)
/-- What taking back is made of, from a view. -/
def bakS (f : Vw) (old m : Nat) (T : Nat → Nat) (P : Nat → List UInt8) : Nat → Stp := catS (renS (f nmJ)) 2 (chgS old m T P)
theorem bak_ok (f : Vw) {old m : Nat} {T : Nat → Nat} {P : Nat → List UInt8} (hP : ∀ k, k < m → (P k).length = 256) (hT : Rise old m T) (ho : old ≤ 20) (hd : 256 * old ≤ (f nmD).length) (hj : 64 ≤ (f nmJ).length) (r : Int) (k : Nat) (hk : k < 2 + (m + 4)) :
    (bakS f old m T P k).ok (vw f (bakS f old m T P) k) ∧ (bakS f old m T P k).fits r (vw f (bakS f old m T P) k) := by
  have r2 := ren_view f 2 (by omega) (by omega)
  unfold bakS
  by_cases c : k < 2
  · rw [catS_lt c, vw_le (Nat.le_of_lt c)]
    match k with
    | 0 =>
      refine ⟨⟨.inr rfl, ?_, ?_, ?_⟩, .inl ?_⟩
      · show 0 < (bstr _).size; rw [bstr_size, sealB_length]; omega
      · show (bstr _).size ≤ 2000; rw [bstr_size, sealB_length]; omega
      · show 0 + (bstr _).size ≤ 6100; rw [bstr_size, sealB_length]; omega
      · show 0 + (bstr _).size ≤ (f nmJ).length; rw [bstr_size, sealB_length]; omega
    | 1 => exact ⟨trivial, trivial⟩
  · obtain ⟨j, rfl⟩ : ∃ j, k = 2 + j := ⟨k - 2, by omega⟩
    rw [catS_ge, vw_add]
    have hd3 : 256 * old ≤ (vw f (renS (f nmJ)) 2 nmD).length := by rw [r2.2.2.1]; exact hd
    refine ⟨chg_ok _ hP (fun j hj => ⟨(hT.low j hj).1, by have := (hT.low j hj).2; omega⟩) (.inl hd3) ho j (by omega), ?_⟩
    refine chg_fits _ hP (fun j hj => (hT.low j hj).1) (by rw [r2.2.1]; omega) j (by omega) ?_
    by_cases c2 : j < m
    · exact .inr (by have := (hT.low j c2).2; omega)
    · exact .inl (by omega)
/-- What was changed in part is taken back. -/
theorem bak_end (f1 : Vw) {old count n k : Nat} {N : Nat → Nat} {L : Nat → List UInt8} (h : Rise count n N) (hL : ∀ j, j < n → (L j).length = 256) (hk : k ≤ n) (hdb : (f1 nmD).length = 256 * old) :
    ∀ f2 : Vw, f2 = vw f1 (pgS N L) k → ∀ T P m, T = touT old count n N → P = (fun j => pgL (f1 nmD) (T j)) → m = (touchL old count n N).length → (∀ j, j < m → (P j).length = 256) ∧ 256 * old ≤ (f2 nmD).length ∧ f2 nmJ = f1 nmJ ∧
      vw f2 (bakS f2 old m T P) (2 + (m + 4)) nmD = f1 nmD ∧ hdw (vw f2 (bakS f2 old m T P) (2 + (m + 4)) nmJ) 0 = 0 := by
  rintro f2 rfl T P m rfl rfl rfl
  obtain ⟨h1, h2, h3, h4, h5⟩ := pgs_view f1 N L n hL (fun j hj => (h.low j hj).1) k hk
  have hT := touT_rise (old := old) h
  have hP : ∀ j, j < (touchL old count n N).length → (pgL (f1 nmD) (touT old count n N j)).length = 256 := fun j hj => by
    have := hT.low j hj
    exact subL_length (by omega)
  have r2 := ren_view (vw f1 (pgS N L) k) 2 (by omega) (by omega)
  have hd3 : 256 * old ≤ (vw (vw f1 (pgS N L) k) (renS (vw f1 (pgS N L) k nmJ)) 2 nmD).length := by rw [r2.2.2.1]; omega
  have he := chg_end (vw (vw f1 (pgS N L) k) (renS (vw f1 (pgS N L) k nmJ)) 2) (count := old) (L := fun j => pgL (f1 nmD) (touT old count n N j)) hP (fun j hj => (hT.low j hj).1) (.inl hd3)
  refine ⟨hP, by omega, h5, ?_, ?_⟩
  · unfold bakS
    rw [vw_add]
    refine db_ext he.1.len hdb (fun p p1 p2 => ?_)
    rcases he.1.pgs p p1 p2 with ⟨j, g1, g2, g3⟩ | ⟨g1, g2⟩
    · rw [g3, g2]
    · rw [g2 (by omega), r2.2.2.1]
      rcases h4 p p1 with ⟨j, q1, q2, q3⟩ | ⟨q1, q2⟩
      · exfalso
        have : p ∈ touchL old count n N := mem_touch.2 (.inl ⟨p2, j, by omega, q2⟩)
        obtain ⟨i, hi, e⟩ := List.getElem_of_mem this
        refine g1 i hi ?_
        unfold touT
        rw [getD_at hi]
        exact e
      · exact q2 (by omega)
  · unfold bakS
    rw [vw_add]
    exact he.2.1
end Go.Proofs.Ytfcgjedanhmpiaa

namespace Go.Proofs.Ytfcgjedanhmpiaa
open Go.ChangeShapes Go.WideShapes Go.ChangeAt Go.RowKit
open Go.ChangeMaps (setBlock)
set_option linter.unusedVariables false

/-- What an append to a row of that type leaves alone. -/
structure AppE (e : TypeId) (base : Nat) (v : Value) (W w' : World) : Prop where
  grown : ∀ w0 : World, w0.heap.size ≤ base → w0.grownBy W none → w0.grownBy w' none
  blk : ∀ k c t, t ≠ e → Blk W k c t → Blk w' k c t
  size : W.heap.size ≤ w'.heap.size
  other : ∀ k c t, v.ownBlock ≠ some k → Blk W k c t → Blk w' k c t
theorem own_ne {w : World} {base e size n k : Nat} {v : Value} {xs : List Value} (h : w.ownsRow base e size v n xs) (hk : w.heap.size ≤ k) : v.ownBlock ≠ some k := fun e => by have := (h.lt k e).2; omega
theorem AppE.grownB {e : TypeId} {base : Nat} {v : Value} {W w' : World} (h : AppE e base v W w') {w0 : World} (h0 : w0.heap.size = base) (hg : w0.grownBy W none) : w0.grownBy w' none := h.grown w0 (Nat.le_of_eq h0) hg
def InfoE (e size bytes : Nat) : Prop := ∃ i z, Try.prog.info? e = some i ∧ i.zero = some z ∧ i.size = size ∧ i.bytes = bytes ∧ z.cells.size = size
theorem infoE_of {e size bytes : Nat} (h : (Try.prog.info? e).map (fun i => (i.zero.map (fun z => z.cells.size), i.size, i.bytes)) = some (some size, size, bytes)) : InfoE e size bytes := by
  obtain ⟨i, h1, h2⟩ := Option.map_eq_some_iff.1 h
  simp only [Prod.mk.injEq] at h2
  obtain ⟨z, h3, h4⟩ := Option.map_eq_some_iff.1 h2.1
  exact ⟨i, z, h1, h3, h2.2.1, h2.2.2, h4⟩
theorem infoE3 : InfoE 3 1 8 := infoE_of (by kernel_rfl)
theorem infoE67 : InfoE 67 257 264 := infoE_of (by kernel_rfl)
theorem infoE24 : InfoE 24 256 256 := infoE_of (by kernel_rfl)
theorem wp_appE {ops : Array Oper} {rest : List Oper} {o : Oper} {a : Act} {Q : Exit → Act → World → Prop} {W : World} {t e size bytes base n m : Nat} {v : Value} {xs : List Value} (hu : Try.prog.underlying t = some (.slice e)) (hinf : InfoE e size bytes) (hpos : 0 < size) (hb : bytes ≤ 300)
    (news : List Value) (hl : news.length = m * size) (hm : 0 < m) (hone : ∀ u ∈ news, u.oneCell' = true) (hown : W.ownsRow base e size v n xs) (hn : n + m ≤ 100000) (hbase : base ≤ W.heap.size) (s x : Operand)
    (hgd : o.guard = none) (ho : o.op = .call { callee := .builtin .append, args := #[s, x], argTypes := #[t, t] }) (hs : a.eval s = v) (hx : a.eval x = .slice (some ⟨W.heap.size, 0, none⟩) m m)
    (hk : ∀ g cap w', w'.ownsRow base e size (.slice (some ⟨g, 0, none⟩) (n + m) cap) (n + m) (xs ++ news) → AppE e base v W w' → wpList Try.prog ops Q rest (a.put o.dst (.slice (some ⟨g, 0, none⟩) (n + m) cap)) w') :
    wpList Try.prog ops Q (o :: rest) a (W.alloc (.cells news.toArray e)) := by
  obtain ⟨i, z, hi, hz0, hz1, hz2, hz3⟩ := hinf
  have hmul : (n + m) * bytes ≤ 100000 * 300 := Nat.mul_le_mul hn hb
  have hu2 := hown.alloc (.cells news.toArray e)
  refine wpList_append_lies _ hgd s x t ho base e i z size bytes hu hi hz0 hz1 hz2 hz3 hpos v n xs hs hu2 ⟨W.heap.size, 0, none⟩ m m news hx hl (World.news_of_block (cs := news.toArray) (t := e) (fr := (0, 0)) (heap_alloc_new W _)) hone hm (by simp only [maxLen]; omega) (by omega) (by simp; omega) _ rfl ?_
  intro g cap w' hown' hgr hgg hlt
  refine hk g cap w' hown' ⟨fun w0 h0 hW => ?_, fun k c t ht hb => ?_, Nat.le_trans (by simp) hgr.size, fun k c t hn hb => (hgr.block k (by have := hb.lt; simp; omega) (fun e => hn e.symm)).trans ((Below.heap_alloc _ _ _ hb.lt).trans hb)⟩
  · refine ⟨hgr.os.trans hW.os, hgr.tape.trans hW.tape, hgr.output.trans hW.output, Nat.le_trans hW.size (Nat.le_trans (by simp) hgr.size), fun k hk hn => ?_⟩
    have hkW : k < W.heap.size := Nat.lt_of_lt_of_le hk hW.size
    refine (hgr.block k (by simp; omega) (fun e => ?_)).trans ((Below.heap_alloc _ _ _ hkW).trans (hW.block k hk hn))
    have := (hown.lt k e.symm).1
    omega
  · refine (hgr.block k (by have := hb.lt; simp; omega) (fun e => ?_)).trans ((Below.heap_alloc _ _ _ hb.lt).trans hb)
    exact ht (own_type hown e.symm hb)
theorem atApp73 {P : Program} {ops : Array Oper} {Q : Exit → Act → World → Prop} {d : Option Tmp} {x y : Operand} {ty : TypeId} {pos : String} {af : Array Edge} {gd : Option (Nat × Bool)} {rest : List Oper} {a : Act} {w : World} (h : wpList P ops Q ({ dst := d, op := .call { callee := .builtin .append, args := #[x, y], argTypes := #[73, 73] }, type := ty, pos := pos, after := af, guard := gd } :: rest) a w) : wpList P ops Q ({ dst := d, op := .call { callee := .builtin .append, args := #[x, y], argTypes := #[73, 73] }, type := ty, pos := pos, after := af, guard := gd } :: rest) a w := h
/-- Numbers, as cells. -/
def ivs (l : List Nat) : List Value := l.map fun (t : Nat) => Value.int .i64 (t : Int)
theorem ivs_length (l : List Nat) : (ivs l).length = l.length := by simp [ivs]
theorem ivs_append (l r : List Nat) : ivs (l ++ r) = ivs l ++ ivs r := by simp [ivs]
theorem ivs_one (x : Nat) : ivs [x] = [Value.int .i64 (x : Int)] := rfl
theorem one_ivs (x : Nat) : ∀ u ∈ ivs [x], u.oneCell' = true := by intro u hu; simp [ivs] at hu; rw [hu]; rfl
def filtL (old : Nat) (N : Nat → Nat) (j : Nat) : List Nat := ((List.range j).map N).filter (fun x => decide (x ≤ old))
theorem filtL_len (old : Nat) (N : Nat → Nat) (j : Nat) : (filtL old N j).length ≤ j := Nat.le_trans (List.length_filter_le _ _) (by simp)
theorem filtL_yes {old : Nat} {N : Nat → Nat} {j : Nat} (h : N j ≤ old) : filtL old N (j + 1) = filtL old N j ++ [N j] := by unfold filtL; rw [List.range_succ, List.map_append, List.filter_append]; simp [h]
theorem filtL_no {old : Nat} {N : Nat → Nat} {j : Nat} (h : ¬ N j ≤ old) : filtL old N (j + 1) = filtL old N j := by unfold filtL; rw [List.range_succ, List.map_append, List.filter_append]; simp [h]
/-- A row of numbers of one's own. -/
def IntO (w : World) (base : Nat) (v : Value) (l : List Nat) : Prop := ∃ q c, v = .slice q l.length c ∧ w.ownsRow base 3 1 v l.length (ivs l)
theorem IntO.step {w : World} {base g cap n : Nat} {l r : List Nat} (hn : n = l.length) (h : w.ownsRow base 3 1 (.slice (some ⟨g, 0, none⟩) (n + r.length) cap) (n + r.length) (ivs l ++ ivs r)) : IntO w base (.slice (some ⟨g, 0, none⟩) (n + r.length) cap) (l ++ r) := by
  subst hn
  refine ⟨some ⟨g, 0, none⟩, cap, by simp, ?_⟩
  rw [ivs_append]
  simpa using h
theorem own_grown {w w' : World} {base e size n : Nat} {v : Value} {xs : List Value} (h : w.ownsRow base e size v n xs) (hg : w.grownBy w' none) : w'.ownsRow base e size v n xs := ownsRow_only h (Only.of_grown hg) (by simp)

set_option maxHeartbeats 2000000 in
theorem touched_any (w : World) (old count : Nat) (ho : old ≤ 5000 ∧ count ≤ 5000) (p : Option Addr) (n cap : Nat) (N : Nat → Nat) (L : Nat → List UInt8) (hp : PgA w p n (fun k => (N k : Int)) L) (hn : n ≤ 5000) :
    Calls Try.prog 37 #[.int .i64 (old : Int), .int .i64 (count : Int), .slice p n cap] w fun e w' => (∃ v, e = .returned v ∧ IntO w' w.heap.size v (touchL old count n N)) ∧ w.grownBy w' none := by
  have HP := hideJ hp
  have HL := hideJ hn
  have HO := hideJ ho
  have hw0 : IntKind.i64.wrap ((count : Int) + 1) = (count : Int) + 1 := by rw [IntKind.wrap_i64]; omega
  clear hp hn ho
  go_enter Try.func37, Try.ntmps37
  go_wp2
  go_loopw [7, 13] (fun sv iv wr => ∃ j : Nat, j ≤ n ∧ iv = .int .i64 (j : Int) ∧ IntO wr w.heap.size sv (filtL old N j) ∧ w.grownBy wr none) (fun _ iv _ => n - (intOf iv).toNat)
  case atStart => exact ⟨0, Nat.zero_le _, rfl, ⟨none, 0, rfl, World.ownsRow_nil _ _ _ _⟩, grown_refl _⟩
  case round =>
    obtain ⟨j, hj, rfl, ⟨q, c', rfl, hown⟩, hg⟩ := hrel
    have HG := hideJ hg
    have HOw := hideJ hown
    clear hg hown
    by_cases hlt : j < n
    · obtain ⟨g, cur, rfl, hb, hc⟩ := (HP.out.grown HG.out) (by omega)
      have HRg := hideJ (hc j hlt)
      obtain ⟨z, hz, hZ⟩ := new67 wr
      have HZ := hideJ hZ
      have HI := hideJ (size67 (n := (N j : Int)) (hc j hlt).1)
      have HSz : Hid ((pcl (N j : Int) (L j)).toArray.size = z.size) := by show _ = _; rw [List.size_toArray, pcl_length _ (hc j hlt).1, hz]
      have HA := hideJ (pcl_all (N j : Int) (L j))
      have l1 : (j : Int) < (n : Int) := by omega
      have l0 : (0 : Int) ≤ (j : Int) := by omega
      have hw1 : IntKind.i64.wrap ((j : Int) + 1) = (j : Int) + 1 := by have := HL.out; rw [IntKind.wrap_i64]; omega
      have HK := hideJ hlt
      clear hb hc hZ hz
      by_cases l2 : (N j : Int) ≤ (old : Int)
      · have HF := hideJ (filtL_yes (N := N) (j := j) (old := old) (by omega))
        have HFl := hideJ (filtL_len old N j)
        generalize filtL old N j = FL at HOw HF HFl
        generalize hfl : FL.length = fn at HOw
        have HFn := hideJ hfl.symm
        clear hfl
        go_wp2_with (first
          | ((with_reducible refine at67L ?_); refine wp_load67 HRg.out.1 HRg.out.2 _ (by rfl) (by rfl) (by rfl) ?_)
          | ((with_reducible refine at67S ?_); refine wp_storeB (c := (pcl (N j : Int) (L j)).toArray) HI.out HSz.out HA.out HZ.out _ _ (by rfl) (by rfl) (by rfl) (by rfl) ?_; intro W5 hb5 ho5; have HG5 := hideJ (grown_only (grown_trans' HG.out (World.grownBy_alloc _ _ _)) ho5 HG.out.size); have HGw := hideJ (grown_only (World.grownBy_alloc wr _ none) ho5 (Nat.le_refl _)); have cN := (Blk.cell hb5 0).trans (show _ = some (Value.int .i64 (N j : Int)) from rfl); clear hb5 ho5)
          | ((with_reducible refine atApp73 ?_); refine wp_appE (m := 1) Try.underlying73 infoE3 (by omega) (by omega) (ivs [N j]) rfl (by omega) (one_ivs _) (own_grown HOw.out HGw.out) (by have := HFl.out; have := HFn.out; have := HL.out; have := HK.out; omega) HG5.out.size _ _ (by rfl) (by rfl) (by rfl) (by rfl) ?_; intro g6 cap6 w6 hown6 hap6; have HO6 := hideJ hown6; have HA6 := hideJ hap6; clear hown6 hap6))
        refine ⟨⟨j + 1, HK.out, rfl, ?_, HA6.out.grown w (Nat.le_refl _) HG5.out⟩, ?_⟩
        · rw [HF.out]
          exact IntO.step HFn.out HO6.out
        · simp only [intOf]; have := HK.out; omega
      · have HF := hideJ (filtL_no (N := N) (j := j) (old := old) (by omega))
        generalize filtL old N j = FL at HOw HF
        generalize hfl : FL.length = fn at HOw
        have HFn := hideJ hfl.symm
        clear hfl
        go_wp2_with (first
          | ((with_reducible refine at67L ?_); refine wp_load67 HRg.out.1 HRg.out.2 _ (by rfl) (by rfl) (by rfl) ?_)
          | ((with_reducible refine at67S ?_); refine wp_storeB (c := (pcl (N j : Int) (L j)).toArray) HI.out HSz.out HA.out HZ.out _ _ (by rfl) (by rfl) (by rfl) (by rfl) ?_; intro W5 hb5 ho5; have HG5 := hideJ (grown_only (grown_trans' HG.out (World.grownBy_alloc _ _ _)) ho5 HG.out.size); have HGw := hideJ (grown_only (World.grownBy_alloc wr _ none) ho5 (Nat.le_refl _)); have cN := (Blk.cell hb5 0).trans (show _ = some (Value.int .i64 (N j : Int)) from rfl); clear hb5 ho5))
        refine ⟨⟨j + 1, HK.out, rfl, ?_, HG5.out⟩, ?_⟩
        · rw [HF.out]
          exact ⟨q, c', by rw [← HFn.out], by rw [← HFn.out]; exact own_grown HOw.out HGw.out⟩
        · simp only [intOf]; have := HK.out; omega
    · obtain rfl : j = n := by omega
      have HT : Hid (touchL old count j N = filtL old N j ++ List.range' (count + 1) (old - count)) := rfl
      have HFl := hideJ (filtL_len old N j)
      generalize filtL old N j = FL at HOw HT HFl
      generalize hfl : FL.length = fn at HOw
      have HFn := hideJ hfl.symm
      clear hfl
      go_wp2
      go_loopw [7, 10] (fun sv iv wq => ∃ i : Nat, i ≤ old - count ∧ iv = .int .i64 ((count : Int) + 1 + (i : Int)) ∧ IntO wq w.heap.size sv (FL ++ List.range' (count + 1) i) ∧ w.grownBy wq none) (fun _ iv _ => (old + 1) - (intOf iv).toNat)
      case atStart => exact ⟨0, Nat.zero_le _, by simp, ⟨q, c', by simp [← HFn.out], by simp [← HFn.out]; exact HOw.out⟩, HG.out⟩
      case round =>
        obtain ⟨i, hi, rfl, ⟨q2, c2, rfl, hown2⟩, hg2⟩ := hrel
        have HG2 := hideJ hg2
        have HOw2 := hideJ hown2
        have HI2 := hideJ hi
        clear hg2 hown2 hi
        by_cases hlt2 : i < old - count
        · have l3 : (count : Int) + 1 + (i : Int) ≤ (old : Int) := by omega
          have hw2 : IntKind.i64.wrap ((count : Int) + 1 + (i : Int) + 1) = (count : Int) + 1 + (i : Int) + 1 := by have := HO.out; rw [IntKind.wrap_i64]; omega
          have HK2 := hideJ hlt2
          have HR : Hid (FL ++ List.range' (count + 1) (i + 1) = (FL ++ List.range' (count + 1) i) ++ [count + 1 + i]) := by show _ = _; rw [List.range'_1_concat, List.append_assoc]
          have HRl : Hid ((FL ++ List.range' (count + 1) i).length ≤ 20000) := by show _ ≤ _; have := HFl.out; have := HL.out; have := HO.out; rw [List.length_append, List.length_range']; omega
          generalize FL ++ List.range' (count + 1) i = GL at HOw2 HR HRl
          generalize hgl : GL.length = gn at HOw2
          have HGn := hideJ hgl.symm
          clear hgl
          have HV : Hid ((ivs [count + 1 + i]).toArray = #[Value.int .i64 ((count : Int) + 1 + (i : Int))]) := by show _ = _; simp [ivs]
          go_wp2_with (first
            | ((with_reducible refine atApp73 ?_); rw [← HV.out]; refine wp_appE (m := 1) Try.underlying73 infoE3 (by omega) (by omega) (ivs [count + 1 + i]) rfl (by omega) (one_ivs _) HOw2.out (by have := HRl.out; have := HGn.out; omega) HG2.out.size _ _ (by rfl) (by rfl) (by rfl) (by rfl) ?_; intro g6 cap6 w6 hown6 hap6; have HO6 := hideJ hown6; have HA6 := hideJ hap6; clear hown6 hap6))
          refine ⟨⟨i + 1, HK2.out, ?_, ?_, HA6.out.grown w (Nat.le_refl _) HG2.out⟩, ?_⟩
          · simp [Int.add_assoc]
          · rw [HR.out]
            exact IntO.step HGn.out HO6.out
          · simp only [intOf]; have := HK2.out; omega
        · obtain rfl : i = old - count := by have := HI2.out; omega
          have l3 : ¬ (count : Int) + 1 + ((old - count : Nat) : Int) ≤ (old : Int) := by omega
          generalize FL ++ List.range' (count + 1) (old - count) = GL at HOw2 HT
          generalize hgl : GL.length = gn at HOw2
          have HGn := hideJ hgl.symm
          clear hgl
          go_wp2
          go_ret
          exact ⟨⟨_, rfl, by rw [HT.out]; exact ⟨q2, c2, by rw [← HGn.out]; rfl, by rw [← HGn.out]; exact HOw2.out⟩⟩, HG2.out⟩
end Go.Proofs.Ytfcgjedanhmpiaa
