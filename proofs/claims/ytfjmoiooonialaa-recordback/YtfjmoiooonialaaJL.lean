/- Plain: the bytes of the number that bytes are. -/
/- Plain: a number that is written is read. -/
/- Plain: a value that is written is read, and what is read was written so. -/
/- Plain: a record is read as the row that is written so, and as no other. -/
/- Plain: no record begins another; one row, one record. -/
import Derived.Test.YtfjmoiooonialaaJG
namespace Go.Proofs.Ytfjmoiooonialaa
open Go.ChangeShapes Go.WideShapes Go.ChangeAt Go.RowKit
set_option linter.unusedVariables false

theorem shrB (x : Int) (k : Nat) : x / 2 ^ (8 * k) / 256 = x / 2 ^ (8 * (k + 1)) := by
  rw [Int.ediv_ediv_of_nonneg (Int.le_of_lt (Int.pow_pos (by decide))), show 8 * (k + 1) = 8 * k + 8 by omega, Int.pow_add]
  rfl
theorem numB_div (r : List UInt8) : ∀ M : Int, numB M r / 2 ^ (8 * r.length) = M := by
  induction r with
  | nil => intro M; simp [numB]
  | cons b r ih =>
    intro M
    have hb := b.toNat_lt
    rw [List.length_cons, ← shrB]
    simp only [numB]
    rw [ih]
    omega
theorem byte_num (M : Int) (r : List UInt8) (b : UInt8) (h : M % 256 = (b.toNat : Int)) : byteN (numB M r) r.length = b := by
  unfold byteN
  rw [numB_div, h]
  simp
/-- The k lowest bytes. -/
def lowB' (x : Int) : Nat → List UInt8
  | 0 => []
  | k + 1 => byteN x k :: lowB' x k
theorem low_num (r : List UInt8) : ∀ M : Int, lowB' (numB M r) r.length = r := by
  induction r with
  | nil => intro M; rfl
  | cons b r ih =>
    intro M
    have hb := b.toNat_lt
    rw [List.length_cons, lowB']
    simp only [numB]
    rw [ih, byte_num _ r b (by omega)]
theorem be_low (x : Int) (T m : Nat) (h : m ≤ T) : beN x T m ++ lowB' x (T - m) = lowB' x T := by
  induction m with
  | zero => simp [beN]
  | succ m ih =>
    have e : T - m = (T - (m + 1)) + 1 := by omega
    have := ih (by omega)
    rw [e, lowB'] at this
    rw [beN, List.append_assoc]
    exact this
/-- What is read as a number is written as it was. -/
theorem be_int {l : List UInt8} (h : l ≠ []) : beN (intB l) l.length l.length = l := by
  have hb := be_low (intB l) l.length l.length (Nat.le_refl _)
  rw [Nat.sub_self] at hb
  have e : beN (intB l) l.length l.length = lowB' (intB l) l.length := by simpa [lowB'] using hb
  rw [e]
  match l, h with
  | a :: r, _ =>
    have ha := a.toNat_lt
    rw [List.length_cons, lowB']
    simp only [intB]
    rw [low_num, byte_num _ r a (by unfold sgnB; split <;> omega)]
/-- The number of an integer's bytes is the integer. -/
theorem numB_low (k : Nat) : ∀ (x : Int), numB (x / 2 ^ (8 * k)) (lowB' x k) = x := by
  induction k with
  | zero => intro x; simp [numB, lowB']
  | succ k ih =>
    intro x
    rw [lowB']
    simp only [numB]
    rw [byte_eq, ← shrB, show x / 2 ^ (8 * k) / 256 * 256 + x / 2 ^ (8 * k) % 256 = x / 2 ^ (8 * k) by omega]
    exact ih x
theorem lowB'_length (x : Int) (k : Nat) : (lowB' x k).length = k := by
  induction k with
  | zero => rfl
  | succ k ih => simp [lowB', ih]
theorem be_low_all (x : Int) (T : Nat) : beN x T T = lowB' x T := by
  have hb := be_low x T T (Nat.le_refl _)
  rw [Nat.sub_self] at hb
  simpa [lowB'] using hb
theorem int_low (x : Int) (k : Nat) (h : -128 ≤ x / 2 ^ (8 * k) ∧ x / 2 ^ (8 * k) ≤ 127) : intB (lowB' x (k + 1)) = x := by
  rw [lowB']
  simp only [intB]
  have e : sgnB (byteN x k) = x / 2 ^ (8 * k) := by
    have hb := byte_eq x k
    unfold sgnB
    generalize x / 2 ^ (8 * k) = y at *
    split <;> omega
  rw [e]
  exact numB_low k x
end Go.Proofs.Ytfjmoiooonialaa

namespace Go.Proofs.Ytfjmoiooonialaa
open Go.ChangeShapes Go.WideShapes Go.ChangeAt Go.RowKit
set_option linter.unusedVariables false

theorem beg_more (d : List UInt8) : ∀ (l : List UInt8) (n u : Nat), (∀ b ∈ d, 128 ≤ b.toNat) → n + d.length ≤ 8 → beg (d ++ l) n u = beg l (n + d.length) (d.foldl (fun u b => u * 128 + b.toNat % 128) u) := by
  induction d with
  | nil => intro l n u _ _; rfl
  | cons b d ih =>
    intro l n u hd hn
    simp only [List.length_cons] at hn
    rw [List.cons_append, beg, if_neg (by omega), if_neg (by have := hd b (by simp); omega), ih l (n + 1) _ (fun c hc => hd c (by simp [hc])) (by omega)]
    simp only [List.length_cons, List.foldl_cons]
    congr 1
    omega
theorem lows_high (k : Nat) : ∀ u, ∀ b ∈ lows k u, 128 ≤ b.toNat := by
  induction k with
  | zero => intro u b hb; simp [lows] at hb
  | succ k ih =>
    intro u b hb
    rw [lows_snoc, List.mem_append] at hb
    rcases hb with h | h
    · exact ih _ b h
    · have e : b = hiB u := by simpa using h
      rw [e]
      unfold hiB
      rw [UInt8.toNat_ofNat']
      omega
theorem lows_valD (k : Nat) : ∀ u, u < 128 ^ k → valD (lows k u) = u := by
  induction k with
  | zero => intro u hu; simp at hu; subst hu; rfl
  | succ k ih =>
    intro u hu
    rw [lows_snoc, valD_snoc, ih (u / 128) (by rw [Nat.pow_succ] at hu; omega)]
    unfold hiB
    rw [UInt8.toNat_ofNat']
    omega
theorem beg_put (u : Nat) (hu : u < 18446744073709551616) (r : List UInt8) : beg (putL u ++ r) 0 0 = (u, vsz u) := by
  have hv := vsz_pos u
  have h9 := vsz_nine u
  unfold putL
  by_cases h : u < 72057594037927936
  · rw [if_pos h, List.append_assoc]
    have hk : vsz u - 1 ≤ 7 := by
      have : ¬ vsz u = 9 := fun e => h9.1 e h
      omega
    rw [beg_more (lows (vsz u - 1) (u / 128)) _ 0 0 (lows_high _ _) (by rw [lows_length]; omega)]
    have hlt : u / 128 < 128 ^ (vsz u - 1) := by
      unfold vsz
      repeat' split
      all_goals (simp only [Nat.reduceSub, Nat.reducePow]; omega)
    have e : (lows (vsz u - 1) (u / 128)).foldl (fun u b => u * 128 + b.toNat % 128) 0 = u / 128 := lows_valD _ _ hlt
    rw [e, lows_length, List.singleton_append, beg, if_neg (by omega), UInt8.toNat_ofNat', if_pos (by omega)]
    congr 1 <;> omega
  · rw [if_neg h, List.append_assoc]
    rw [beg_more (lows 8 (u / 256)) _ 0 0 (lows_high _ _) (by rw [lows_length]; omega)]
    have e : (lows 8 (u / 256)).foldl (fun u b => u * 128 + b.toNat % 128) 0 = u / 256 := lows_valD 8 _ (by simp only [Nat.reducePow]; omega)
    rw [e, lows_length, List.singleton_append, beg, if_pos (by omega), UInt8.toNat_ofNat', h9.2 h]
    have e2 : u / 256 * 256 + u % 256 % 2 ^ 8 = u := by simp only [Nat.reducePow]; omega
    rw [e2]
/-- A number that is written is read, whatever follows. -/
theorem vrd_put (u : Nat) (hu : u < 18446744073709551616) (r : List UInt8) : vrdU (putL u ++ r) = u ∧ vrdN (putL u ++ r) = (putL u).length := by
  unfold vrdU vrdN
  rw [beg_put u hu r, putL_length]
  simp
/-- What is read as a number was written so. -/
theorem vrd_take {l : List UInt8} (h : vrdN l ≠ 0) : putL (vrdU l) = l.take (vrdN l) ∧ vrdN l ≤ l.length ∧ vrdU l < 18446744073709551616 ∧ vrdN l = vsz (vrdU l) := by
  obtain ⟨u, n, hb⟩ : ∃ u n, beg l 0 0 = (u, n) := ⟨_, _, rfl⟩
  have hi := beg_iff l u n hb
  have e1 : vrdU l = if n = vsz u then u else 0 := by unfold vrdU; rw [hb]
  have e2 : vrdN l = if n = vsz u then n else 0 := by unfold vrdN; rw [hb]
  rw [e1, e2]
  rw [e2] at h
  by_cases e : n = vsz u
  · rw [if_pos e] at h
    rw [if_pos e, if_pos e]
    rcases hi with ⟨h0, _⟩ | ⟨h1, h2, h3, h4, h5⟩
    · exact absurd h0 h
    · exact ⟨(h5.1 e), h3, h4, e⟩
  · rw [if_neg e] at h
    exact absurd rfl h
end Go.Proofs.Ytfjmoiooonialaa

namespace Go.Proofs.Ytfjmoiooonialaa
open Go.ChangeShapes Go.WideShapes Go.ChangeAt Go.RowKit
set_option linter.unusedVariables false

theorem valL_big {k n : Int} {t : ByteArray} (h : 8 < typN k n t) : valL k n t = t.data.toList := by
  unfold valL
  rw [if_neg (by omega), List.nil_append]
theorem rdV_some {t : Nat} {s : ByteArray} {k n : Int} {A : ByteArray} {m : Nat} (h : rdV t s = some (k, n, A, m)) : mayB k n A = true ∧ InI n ∧ typN k n A = t ∧ m ≤ s.size ∧ valL k n A = s.data.toList.take m := by
  have hl : s.data.toList.length = s.size := by simp
  unfold rdV at h
  by_cases h0 : t = 0
  · rw [if_pos h0] at h
    simp only [Option.some.injEq, Prod.mk.injEq] at h
    obtain ⟨rfl, rfl, rfl, rfl⟩ := h
    exact ⟨by decide, by unfold InI; omega, h0.symm, Nat.zero_le _, rfl⟩
  rw [if_neg h0] at h
  by_cases h8 : t ≤ 8
  · rw [if_pos h8] at h
    by_cases hs : s.size < t
    · rw [if_pos hs] at h; cases h
    rw [if_neg hs] at h
    by_cases hty : typN 1 (intB (s.data.toList.take t)) ⟨#[]⟩ = t
    · rw [if_pos hty] at h
      simp only [Option.some.injEq, Prod.mk.injEq] at h
      obtain ⟨rfl, rfl, rfl, rfl⟩ := h
      have hlen : (s.data.toList.take t).length = t := by rw [List.length_take]; omega
      refine ⟨by simp [may1], intB_in (by omega), hty, by omega, ?_⟩
      unfold valL
      rw [hty, if_pos h8]
      have hb := be_int (l := s.data.toList.take t) (fun e => by rw [e] at hlen; simp at hlen; omega)
      rw [hlen] at hb
      rw [hb]
      simp
    · rw [if_neg hty] at h; cases h
  rw [if_neg h8] at h
  by_cases h9 : t = 9 ∨ t = 10
  · rw [if_pos h9] at h
    simp only [Option.some.injEq, Prod.mk.injEq] at h
    obtain ⟨rfl, rfl, rfl, rfl⟩ := h
    rcases h9 with rfl | rfl
    · exact ⟨by decide, by unfold InI; omega, rfl, Nat.zero_le _, rfl⟩
    · exact ⟨by decide, by unfold InI; omega, rfl, Nat.zero_le _, rfl⟩
  rw [if_neg h9] at h
  by_cases h11 : t = 11
  · rw [if_pos h11] at h; cases h
  rw [if_neg h11] at h
  by_cases hbad : 400 < (t - 12) / 2 ∨ s.size < (t - 12) / 2
  · rw [if_pos hbad] at h; cases h
  rw [if_neg hbad] at h
  simp only [Option.some.injEq, Prod.mk.injEq] at h
  obtain ⟨rfl, rfl, rfl, rfl⟩ := h
  have hAs : (s.extract 0 ((t - 12) / 2)).size = (t - 12) / 2 := by rw [ByteArray.size_extract]; omega
  have htyp : typN (kindT (t - 12)) 0 (s.extract 0 ((t - 12) / 2)) = t := by
    unfold kindT
    split
    · unfold typN; rw [if_neg (by decide), if_pos rfl]; omega
    · unfold typN; rw [if_neg (by decide), if_neg (by decide), if_pos rfl]; omega
  refine ⟨?_, by unfold InI; omega, htyp, by omega, ?_⟩
  · unfold kindT
    split
    · rw [may2]; simp; omega
    · rw [may3]; simp; omega
  · rw [valL_big (by omega), ext_take]

theorem cat_size (a r : List UInt8) : (⟨(a ++ r).toArray⟩ : ByteArray).size = a.length + r.length := by simp [ByteArray.size]
theorem cat_take (a r : List UInt8) : (⟨(a ++ r).toArray⟩ : ByteArray).data.toList.take a.length = a := by simp
theorem cat_ext (A : ByteArray) (r : List UInt8) : (⟨(A.data.toList ++ r).toArray⟩ : ByteArray).extract 0 A.size = A := by
  apply ByteArray.ext
  apply Array.toList_inj.1
  rw [ext_take]
  have : A.data.toList.length = A.size := by simp
  rw [← this]
  simp
theorem wid_fit {n : Int} (hn : InI n) : -128 ≤ n / 2 ^ (8 * (widN n - 1)) ∧ n / 2 ^ (8 * (widN n - 1)) ≤ 127 := by
  have h8 := widN_le hn
  have h1 := widN_pos n
  have hb : magN n < 2 ^ (8 * widN n - 1) := by
    refine (bl_le 64 (magN n) (8 * widN n - 1) (by have := magN_lt hn; omega)).1 ?_
    show Lib.bitLen (magN n) ≤ 8 * widN n - 1
    unfold widN
    omega
  have hmag : (0 ≤ n → (magN n : Int) = n) ∧ (n < 0 → (magN n : Int) = -n - 1) := by
    unfold magN
    constructor
    · intro h; rw [if_pos h]; omega
    · intro h; rw [if_neg (by omega)]; omega
  obtain ⟨m0, m1⟩ := hmag
  generalize magN n = M at *
  generalize widN n = W at *
  have hW : W = 1 ∨ W = 2 ∨ W = 3 ∨ W = 4 ∨ W = 5 ∨ W = 6 ∨ W = 7 ∨ W = 8 := by omega
  by_cases s0 : 0 ≤ n
  · have := m0 s0
    rcases hW with rfl | rfl | rfl | rfl | rfl | rfl | rfl | rfl <;> simp only [Nat.reduceMul, Nat.reduceSub, Nat.reducePow, Int.reducePow] at hb ⊢ <;> omega
  · have := m1 (by omega)
    rcases hW with rfl | rfl | rfl | rfl | rfl | rfl | rfl | rfl <;> simp only [Nat.reduceMul, Nat.reduceSub, Nat.reducePow, Int.reducePow] at hb ⊢ <;> omega
theorem rdV_val {k n : Int} {A : ByteArray} (hm : mayB k n A = true) (hn : InI n) (r : List UInt8) : rdV (typN k n A) ⟨(valL k n A ++ r).toArray⟩ = some (k, n, A, (valL k n A).length) := by
  rcases may_cases hm with ⟨rfl, rfl, rfl⟩ | ⟨rfl, rfl⟩ | ⟨h23, rfl, hs⟩
  · rfl
  · by_cases h0 : n = 0
    · subst h0; rfl
    by_cases h1 : n = 1
    · subst h1; rfl
    have hT : typN 1 n ⟨#[]⟩ = widN n := by unfold typN; rw [if_pos rfl, if_neg h0, if_neg h1]
    have h8 := widN_le hn
    have hp := widN_pos n
    have hv : valL 1 n ⟨#[]⟩ = lowB' n (widN n) := by
      unfold valL
      rw [hT, if_pos h8, be_low_all]
      simp
    have hl : (lowB' n (widN n)).length = widN n := lowB'_length _ _
    have hi : intB (lowB' n (widN n)) = n := by
      have := int_low n (widN n - 1) (wid_fit hn)
      rwa [show widN n - 1 + 1 = widN n by omega] at this
    rw [hv, hT]
    unfold rdV
    have ht : (⟨(lowB' n (widN n) ++ r).toArray⟩ : ByteArray).data.toList.take (widN n) = lowB' n (widN n) := by
      have := cat_take (lowB' n (widN n)) r
      rwa [hl] at this
    rw [if_neg (by omega), if_pos h8, if_neg (by rw [cat_size, hl]; omega), ht, hi, if_pos hT, hl]
  · have hT : typN k 0 A = (if k = 2 then 13 else 12) + 2 * A.size := by
      rcases h23 with rfl | rfl
      · unfold typN; rw [if_neg (by decide), if_pos rfl, if_pos rfl]
      · unfold typN; rw [if_neg (by decide), if_neg (by decide), if_pos rfl, if_neg (by decide)]
    have hT8 : 12 ≤ typN k 0 A := by rw [hT]; split <;> omega
    have hd : (typN k 0 A - 12) / 2 = A.size := by rw [hT]; split <;> omega
    have hk : kindT (typN k 0 A - 12) = k := by
      rcases h23 with rfl | rfl
      · have e : typN 2 0 A = 13 + 2 * A.size := by rw [hT, if_pos rfl]
        unfold kindT
        rw [e, if_pos (by omega)]
      · have e : typN 3 0 A = 12 + 2 * A.size := by rw [hT, if_neg (by decide)]
        unfold kindT
        rw [e, if_neg (by omega)]
    have hv := valL_big (k := k) (n := 0) (t := A) (by omega)
    have hl : A.data.toList.length = A.size := by simp
    rw [hv]
    unfold rdV
    rw [if_neg (by omega), if_neg (by omega), if_neg (by omega), if_neg (by omega), hd, hk, if_neg (by rw [cat_size]; omega), cat_ext, hl]
end Go.Proofs.Ytfjmoiooonialaa

namespace Go.Proofs.Ytfjmoiooonialaa
open Go.ChangeShapes Go.WideShapes Go.ChangeAt Go.RowKit
set_option linter.unusedVariables false

abbrev Val3 := Int × Int × ByteArray
def tyV (v : Val3) : Nat := typN v.1 v.2.1 v.2.2
def byV (v : Val3) : List UInt8 := valL v.1 v.2.1 v.2.2
def okV (v : Val3) : Prop := mayB v.1 v.2.1 v.2.2 = true ∧ InI v.2.1
def putsL : List Nat → List UInt8
  | [] => []
  | t :: ts => putL t ++ putsL ts
def bdsL : List Val3 → List UInt8
  | [] => []
  | v :: vs => byV v ++ bdsL vs
/-- What a row is written as. -/
def encV (vs : List Val3) : List UInt8 := putL vs.length ++ (putsL (vs.map tyV) ++ bdsL vs)
def rdT : Nat → List UInt8 → Option (List Nat × List UInt8)
  | 0, l => some ([], l)
  | n + 1, l => if vrdN l = 0 then none else match rdT n (l.drop (vrdN l)) with
    | none => none
    | some (ts, r) => some (vrdU l :: ts, r)
def rdR : List Nat → List UInt8 → Option (List Val3 × List UInt8)
  | [], l => some ([], l)
  | t :: ts, l => match rdV t ⟨l.toArray⟩ with
    | none => none
    | some (k, n, A, m) => match rdR ts (l.drop m) with
      | none => none
      | some (vs, r) => some ((k, n, A) :: vs, r)
theorem rdT_put (ts : List Nat) (h : ∀ t ∈ ts, t < 18446744073709551616) (r : List UInt8) : rdT ts.length (putsL ts ++ r) = some (ts, r) := by
  induction ts with
  | nil => rfl
  | cons t ts ih =>
    have hv := vrd_put t (h t (by simp)) (putsL ts ++ r)
    have hp : (putL t).length ≠ 0 := by rw [putL_length]; have := (vsz_pos t).1; omega
    rw [List.length_cons, putsL, List.append_assoc, rdT, hv.2, if_neg hp, List.drop_left, ih (fun x hx => h x (by simp [hx])), hv.1]
theorem rdT_some (n : Nat) : ∀ (l : List UInt8) (ts : List Nat) (r : List UInt8), rdT n l = some (ts, r) → l = putsL ts ++ r ∧ ts.length = n ∧ ∀ t ∈ ts, t < 18446744073709551616 := by
  induction n with
  | zero =>
    intro l ts r h
    simp only [rdT, Option.some.injEq, Prod.mk.injEq] at h
    obtain ⟨rfl, rfl⟩ := h
    exact ⟨rfl, rfl, fun t ht => by simp at ht⟩
  | succ n ih =>
    intro l ts r h
    rw [rdT] at h
    by_cases h0 : vrdN l = 0
    · rw [if_pos h0] at h; cases h
    rw [if_neg h0] at h
    cases hr : rdT n (l.drop (vrdN l)) with
    | none => rw [hr] at h; cases h
    | some q =>
      obtain ⟨ts', r'⟩ := q
      rw [hr] at h
      simp only [Option.some.injEq, Prod.mk.injEq] at h
      obtain ⟨rfl, rfl⟩ := h
      obtain ⟨e1, e2, e3⟩ := ih _ _ _ hr
      obtain ⟨v1, v2, v3, v4⟩ := vrd_take h0
      refine ⟨?_, by simp [e2], fun t ht => ?_⟩
      · rw [putsL, List.append_assoc, ← e1, v1, List.take_append_drop]
      · rcases List.mem_cons.1 ht with rfl | ht
        · exact v3
        · exact e3 t ht
theorem rdR_val (vs : List Val3) (h : ∀ v ∈ vs, okV v) (r : List UInt8) : rdR (vs.map tyV) (bdsL vs ++ r) = some (vs, r) := by
  induction vs with
  | nil => rfl
  | cons v vs ih =>
    obtain ⟨k, n, A⟩ := v
    have hv := rdV_val (h (k, n, A) (by simp)).1 (h (k, n, A) (by simp)).2 (bdsL vs ++ r)
    rw [List.map_cons, bdsL, List.append_assoc, rdR]
    show (match rdV (typN k n A) ⟨(valL k n A ++ (bdsL vs ++ r)).toArray⟩ with | none => none | some (k, n, A, m) => match rdR (vs.map tyV) ((valL _ _ _ ++ (bdsL vs ++ r)).drop m) with | none => none | some (vs, r) => some ((k, n, A) :: vs, r)) = _
    rw [hv]
    simp only
    rw [List.drop_left, ih (fun x hx => h x (by simp [hx]))]
theorem rdR_some (ts : List Nat) : ∀ (l : List UInt8) (vs : List Val3) (r : List UInt8), rdR ts l = some (vs, r) → l = bdsL vs ++ r ∧ vs.map tyV = ts ∧ ∀ v ∈ vs, okV v := by
  induction ts with
  | nil =>
    intro l vs r h
    simp only [rdR, Option.some.injEq, Prod.mk.injEq] at h
    obtain ⟨rfl, rfl⟩ := h
    exact ⟨rfl, rfl, fun v hv => by simp at hv⟩
  | cons t ts ih =>
    intro l vs r h
    rw [rdR] at h
    cases hr : rdV t ⟨l.toArray⟩ with
    | none => rw [hr] at h; cases h
    | some q =>
      obtain ⟨k, n, A, m⟩ := q
      rw [hr] at h
      simp only at h
      cases hq : rdR ts (l.drop m) with
      | none => rw [hq] at h; cases h
      | some q2 =>
        obtain ⟨vs', r'⟩ := q2
        rw [hq] at h
        simp only [Option.some.injEq, Prod.mk.injEq] at h
        obtain ⟨rfl, rfl⟩ := h
        obtain ⟨e1, e2, e3⟩ := ih _ _ _ hq
        obtain ⟨v1, v2, v3, v4, v5⟩ := rdV_some hr
        refine ⟨?_, ?_, fun v hv => ?_⟩
        · have v6 : byV (k, n, A) = l.take m := by show valL k n A = _; rw [v5]
          rw [bdsL, List.append_assoc, ← e1, v6, List.take_append_drop]
        · rw [List.map_cons, e2]
          show typN k n A :: ts = _
          rw [v3]
        · rcases List.mem_cons.1 hv with rfl | hv
          · exact ⟨v1, v2⟩
          · exact e3 v hv
/-- What the program reads: the count, the types, the values, and no byte behind them. -/
def rdAll (l : List UInt8) : Option (List Val3) :=
  if 4000 < l.length then none
  else if vrdN l = 0 ∨ 16 < vrdU l then none
  else match rdT (vrdU l) (l.drop (vrdN l)) with
    | none => none
    | some (ts, r) => match rdR ts r with
      | none => none
      | some (vs, r') => if r' = [] then some vs else none
theorem tyV_lt {v : Val3} (h : okV v) : tyV v < 18446744073709551616 := by
  have := typN_lt h.1 h.2
  unfold tyV
  omega
theorem rdAll_iff (l : List UInt8) (vs : List Val3) : rdAll l = some vs ↔ l.length ≤ 4000 ∧ vs.length ≤ 16 ∧ (∀ v ∈ vs, okV v) ∧ encV vs = l := by
  constructor
  · intro h
    unfold rdAll at h
    by_cases h4 : 4000 < l.length
    · rw [if_pos h4] at h; cases h
    rw [if_neg h4] at h
    by_cases h0 : vrdN l = 0 ∨ 16 < vrdU l
    · rw [if_pos h0] at h; cases h
    rw [if_neg h0] at h
    cases hr : rdT (vrdU l) (l.drop (vrdN l)) with
    | none => rw [hr] at h; cases h
    | some q =>
      obtain ⟨ts, r⟩ := q
      rw [hr] at h
      simp only at h
      cases hq : rdR ts r with
      | none => rw [hq] at h; cases h
      | some q2 =>
        obtain ⟨vs', r'⟩ := q2
        rw [hq] at h
        simp only at h
        by_cases hr' : r' = []
        · rw [if_pos hr'] at h
          obtain rfl := Option.some.inj h
          subst hr'
          obtain ⟨a1, a2, a3⟩ := rdT_some _ _ _ _ hr
          obtain ⟨b1, b2, b3⟩ := rdR_some _ _ _ _ hq
          obtain ⟨v1, v2, v3, v4⟩ := vrd_take (l := l) (by omega)
          have hlen : vs'.length = vrdU l := by rw [← a2, ← b2, List.length_map]
          refine ⟨by omega, by omega, b3, ?_⟩
          unfold encV
          rw [hlen, b2, v1]
          rw [List.append_nil] at b1
          rw [← b1, ← a1, List.take_append_drop]
        · rw [if_neg hr'] at h; cases h
  · rintro ⟨h4, h16, hok, rfl⟩
    unfold rdAll
    have hv := vrd_put vs.length (by omega) (putsL (vs.map tyV) ++ bdsL vs)
    have hp : (putL vs.length).length ≠ 0 := by rw [putL_length]; have := (vsz_pos vs.length).1; omega
    have hT := rdT_put (vs.map tyV) (fun t ht => by
      obtain ⟨v, hv, rfl⟩ := List.mem_map.1 ht
      exact tyV_lt (hok v hv)) (bdsL vs)
    have hR := rdR_val vs hok []
    rw [List.append_nil] at hR
    rw [List.length_map] at hT
    have e1 : vrdU (encV vs) = vs.length := hv.1
    have e2 : vrdN (encV vs) = (putL vs.length).length := hv.2
    rw [if_neg (by omega), e1, e2, if_neg (by omega)]
    unfold encV
    rw [List.drop_left, hT]
    simp only
    rw [hR]
    simp
end Go.Proofs.Ytfjmoiooonialaa

namespace Go.Proofs.Ytfjmoiooonialaa
open Go.ChangeShapes Go.WideShapes Go.ChangeAt Go.RowKit
set_option linter.unusedVariables false

/-- What is read off a beginning. -/
def rdB (l : List UInt8) : Option (List Val3 × List UInt8) := match rdT (vrdU l) (l.drop (vrdN l)) with
  | none => none
  | some (ts, r) => rdR ts r
theorem rdB_enc (vs : List Val3) (h16 : vs.length ≤ 16) (hok : ∀ v ∈ vs, okV v) (r : List UInt8) : rdB (encV vs ++ r) = some (vs, r) := by
  have e : encV vs ++ r = putL vs.length ++ (putsL (vs.map tyV) ++ (bdsL vs ++ r)) := by
    unfold encV
    simp only [List.append_assoc]
  have hv := vrd_put vs.length (by omega) (putsL (vs.map tyV) ++ (bdsL vs ++ r))
  have hT := rdT_put (vs.map tyV) (fun t ht => by
    obtain ⟨v, hv, rfl⟩ := List.mem_map.1 ht
    exact tyV_lt (hok v hv)) (bdsL vs ++ r)
  rw [List.length_map] at hT
  unfold rdB
  rw [e, hv.1, hv.2, List.drop_left, hT]
  exact rdR_val vs hok r
theorem enc_prefix {a b : List Val3} (ha : a.length ≤ 16) (hb : b.length ≤ 16) (oa : ∀ v ∈ a, okV v) (ob : ∀ v ∈ b, okV v) {r : List UInt8} (h : encV b = encV a ++ r) : a = b ∧ r = [] := by
  have h1 := rdB_enc a ha oa r
  have h2 := rdB_enc b hb ob []
  rw [List.append_nil, h, h1] at h2
  simp only [Option.some.injEq, Prod.mk.injEq] at h2
  exact h2
theorem enc_inj {a b : List Val3} (ha : a.length ≤ 16) (hb : b.length ≤ 16) (oa : ∀ v ∈ a, okV v) (ob : ∀ v ∈ b, okV v) : encV a = encV b ↔ a = b :=
  ⟨fun h => (enc_prefix (r := []) ha hb oa ob (by rw [List.append_nil]; exact h.symm)).1, fun h => by rw [h]⟩
/-- A row in memory as a list. -/
def rowV (len : Nat) (K N : Nat → Int) (T : Nat → ByteArray) : List Val3 := (List.range len).map fun i => (K i, N i, T i)
theorem rowV_length (len : Nat) (K N : Nat → Int) (T : Nat → ByteArray) : (rowV len K N T).length = len := by simp [rowV]
theorem rowV_succ (len : Nat) (K N : Nat → Int) (T : Nat → ByteArray) : rowV (len + 1) K N T = rowV len K N T ++ [(K len, N len, T len)] := by simp [rowV, List.range_succ]
theorem putsL_snoc (ts : List Nat) (t : Nat) : putsL (ts ++ [t]) = putsL ts ++ putL t := by
  induction ts with
  | nil => simp [putsL]
  | cons a ts ih => simp [putsL, ih]
theorem bdsL_snoc (vs : List Val3) (v : Val3) : bdsL (vs ++ [v]) = bdsL vs ++ byV v := by
  induction vs with
  | nil => simp [bdsL]
  | cons a vs ih => simp [bdsL, ih]
end Go.Proofs.Ytfjmoiooonialaa
