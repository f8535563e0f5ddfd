/- Plain: a page that may be is fixed by its kind, link and cells. -/
import Derived.Test.YtenfjbcigkolaaaGreatGN
namespace Go.Proofs.YtenfjbcigkolaaaGreat
open Go.ChangeShapes Go.WideShapes Go.ChangeAt Go.RowKit
set_option linter.unusedVariables false

/-- A page's cell. -/
def cellS (l : List UInt8) (i : Nat) : ByteArray := subS l (stN l i) (byt l (6 + i))
theorem stN_succ (l : List UInt8) (i : Nat) : stN l (i + 1) = stN l i + byt l (6 + i) := by simp only [stN, sm]; omega
theorem cellS_eq (l : List UInt8) (i : Nat) : subS l (stN l i) (stN l (i + 1) - stN l i) = cellS l i := by
  rw [cellS, stN_succ, Nat.add_sub_cancel_left]
theorem subS_toL (l : List UInt8) (a n : Nat) : (subS l a n).data.toList = sub l a n := by simp [subS]
theorem subS_size {l : List UInt8} {a n : Nat} (h : a + n ≤ l.length) : (subS l a n).size = n := by
  have := sub_length h
  simp only [subS, ByteArray.size, List.size_toArray]
  exact this
theorem sub_add {l : List UInt8} {a n m : Nat} : sub l a (n + m) = sub l a n ++ sub l (a + n) m := by
  unfold sub
  rw [List.take_add, List.drop_drop]
theorem sub_zero (l : List UInt8) (a : Nat) : sub l a 0 = [] := by simp [sub]
theorem sub_one {l : List UInt8} {a : Nat} (h : a < l.length) : sub l a 1 = [UInt8.ofNat (byt l a)] := by
  unfold sub byt
  rw [List.drop_eq_getElem_cons h, List.getElem?_eq_getElem h, List.take_succ_cons, List.take_zero]
  simp
theorem cat_congr {A B : Nat → ByteArray} {n : Nat} (h : ∀ i, i < n → A i = B i) : cat A n = cat B n := by
  induction n with
  | zero => rfl
  | succ n ih => rw [cat, cat, ih (fun i hi => h i (by omega)), h n (by omega)]
theorem cat_add (A : Nat → ByteArray) (a b : Nat) : cat A (a + b) = cat A a ++ cat (fun t => A (a + t)) b := by
  induction b with
  | zero => simp [cat]
  | succ b ih => rw [← Nat.add_assoc, cat, ih, cat, List.append_assoc]
theorem lenS_toL {s : ByteArray} : (lenS s).data.toList = [UInt8.ofNat s.size] := rfl
/-- The bytes of cells in a row, and their lengths. -/
theorem cat_cells {l : List UInt8} (i : Nat) : ∀ m, cat (fun t => cellS l (i + t)) m = sub l (stN l i) (stN l (i + m) - stN l i)
  | 0 => by simp [cat, sub_zero]
  | m + 1 => by
    have h1 := stN_mono l (show i ≤ i + m by omega)
    rw [cat, cat_cells i m, cellS, subS_toL, show i + (m + 1) = i + m + 1 from rfl, stN_succ, show stN l (i + m) + byt l (6 + (i + m)) - stN l i = (stN l (i + m) - stN l i) + byt l (6 + (i + m)) by omega, sub_add, show stN l i + (stN l (i + m) - stN l i) = stN l (i + m) by omega]
theorem cellS_size {l : List UInt8} (hl : l.length = 256) {i : Nat} (h : stN l (i + 1) ≤ 256) : (cellS l i).size = byt l (6 + i) := by
  rw [stN_succ] at h
  exact subS_size (by omega)
theorem cat_lens {l : List UInt8} (hl : l.length = 256) (i : Nat) : ∀ m, 6 + i + m ≤ 256 → stN l (i + m) ≤ 256 → cat (fun t => lenS (cellS l (i + t))) m = sub l (6 + i) m
  | 0, _, _ => by simp [cat, sub_zero]
  | m + 1, h, hs => by
    have h1 := stN_mono l (show i + m ≤ i + (m + 1) by omega)
    rw [cat, cat_lens hl i m (by omega) (by omega), lenS_toL, cellS_size hl (by rw [← Nat.add_assoc] at hs; exact hs), sub_add, sub_one (by omega), show 6 + i + m = 6 + (i + m) by omega]
/-- Runs that are joined are the page of their cells. -/
theorem joined_page (k L n m : Nat) (A B S : Nat → ByteArray) (hA : cat A m = cat (fun i => lenS (S i)) n) (hB : cat B m = cat S n) : setL (lay k (cat A m).length A B (cat A m).length m m) L = pageL k L n S := by
  have hn : (cat A m).length = n := by rw [hA, cat_lenS]
  unfold pageL lay
  rw [hn, hA, hB, cat_lenS]
theorem byt_ofNat (l : List UInt8) (k : Nat) : (UInt8.ofNat (byt l k)) = l[k]?.getD 0 := by
  unfold byt
  simp
theorem take6 {l : List UInt8} (hl : l.length = 256) : l.take 6 = hd6 (byt l 0) (byt l 1) (lnk l) := by
  obtain ⟨a, b, c, d, e, f, r, rfl⟩ : ∃ a b c d e f r, l = a :: b :: c :: d :: e :: f :: r := by
    match l, hl with
    | a :: b :: c :: d :: e :: f :: r, _ => exact ⟨a, b, c, d, e, f, r, rfl⟩
  have hc := c.toNat_lt
  have hd := d.toNat_lt
  have he := e.toNat_lt
  have hf := f.toNat_lt
  have e0 : byt (a :: b :: c :: d :: e :: f :: r) 0 = a.toNat := rfl
  have e1 : byt (a :: b :: c :: d :: e :: f :: r) 1 = b.toNat := rfl
  have e2 : byt (a :: b :: c :: d :: e :: f :: r) 2 = c.toNat := rfl
  have e3 : byt (a :: b :: c :: d :: e :: f :: r) 3 = d.toNat := rfl
  have e4 : byt (a :: b :: c :: d :: e :: f :: r) 4 = e.toNat := rfl
  have e5 : byt (a :: b :: c :: d :: e :: f :: r) 5 = f.toNat := rfl
  have key : ∀ (x : UInt8) (N : Nat), N % 256 = x.toNat → UInt8.ofNat N = x := fun x N h => by
    apply UInt8.toNat_inj.1
    rw [UInt8.toNat_ofNat', ← h]
  simp only [List.take_succ_cons, List.take_zero, hd6, lnk, e0, e1, e2, e3, e4, e5]
  rw [key a _ (by have := a.toNat_lt; omega), key b _ (by have := b.toNat_lt; omega), key c _ (by omega), key d _ (by omega), key e _ (by omega), key f _ (by omega)]
theorem zeros_of {l : List UInt8} (h : ∀ i, i < l.length → byt l i = 0) : l = zeros l.length := by
  apply List.ext_getElem
  · rw [zeros_length]
  · intro i h1 h2
    have := h i h1
    unfold byt at this
    rw [List.getElem?_eq_getElem h1] at this
    simp only [Option.getD_some] at this
    rw [show (zeros l.length)[i] = 0 by simp [zeros]]
    exact UInt8.toNat_inj.1 this
theorem cat_cells0 (l : List UInt8) (m : Nat) : cat (cellS l) m = sub l (6 + byt l 1) (sm l m) := by
  have := cat_cells (l := l) 0 m
  simp only [Nat.zero_add] at this
  rw [this]
  congr 1
  simp only [stN, sm]; omega
theorem cat_lens0 {l : List UInt8} (hl : l.length = 256) (m : Nat) (h : 6 + m ≤ 256) (hs : stN l m ≤ 256) : cat (fun t => lenS (cellS l t)) m = sub l 6 m := by
  have := cat_lens hl 0 m (by omega) (by rw [Nat.zero_add]; exact hs)
  simpa only [Nat.zero_add, Nat.add_zero] using this
/-- A page that may be is the page of its kind, link and cells. -/
theorem page_is {l : List UInt8} (hl : l.length = 256) (ho : okB l) : pageL (byt l 0) (lnk l) (byt l 1) (cellS l) = l := by
  obtain ⟨o1, o2, o3, o4, o5⟩ := ho
  have hst : stN l (byt l 1) = endN l := rfl
  rw [pageL_eq, layH, cat_lens0 hl _ o2 (by rw [hst]; exact o4), cat_cells0, Nat.sub_self]
  have e0 : zeros 0 = [] := rfl
  have hn : 6 + byt l 1 + sm l (byt l 1) = endN l := rfl
  have e1 : (sub l (6 + byt l 1) (sm l (byt l 1))).length = sm l (byt l 1) := sub_length (by omega)
  have hz : l.drop (endN l) = zeros (256 - endN l) := by
    have := zeros_of (l := l.drop (endN l)) (fun i hi => by
      rw [List.length_drop] at hi
      have := o5 (endN l + i) (by omega) (by omega)
      unfold byt at this ⊢
      rw [List.getElem?_drop]
      exact this)
    rw [List.length_drop, hl] at this
    exact this
  rw [e0, List.nil_append, e1, ← take6 hl, show 250 - byt l 1 - sm l (byt l 1) = 256 - endN l by omega, ← hz]
  have s1 : l.take 6 ++ (sub l 6 (byt l 1) ++ (sub l (6 + byt l 1) (sm l (byt l 1)) ++ l.drop (endN l))) = l.take (6 + byt l 1 + sm l (byt l 1)) ++ l.drop (endN l) := by
    rw [List.take_add, List.take_add]
    simp only [sub, List.append_assoc]
  rw [s1, hn, List.take_append_drop]
theorem ok_room {l : List UInt8} (hl : l.length = 256) (ho : okB l) : byt l 1 + (cat (cellS l) (byt l 1)).length ≤ 250 := by
  obtain ⟨o1, o2, o3, o4, o5⟩ := ho
  have hn : 6 + byt l 1 + sm l (byt l 1) = endN l := rfl
  rw [cat_cells0, sub_length (by omega)]
  omega
end Go.Proofs.YtenfjbcigkolaaaGreat
