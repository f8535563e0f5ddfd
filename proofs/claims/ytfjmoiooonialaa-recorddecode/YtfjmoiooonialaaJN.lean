/- The reader's row: what it reads, as lists. -/
import Derived.Test.YtfjmoiooonialaaJM
import Derived.Test.YtfjmoiooonialaaXJ
import Derived.Laws.MakeOwn
namespace Go.Proofs.Ytfjmoiooonialaa
open Go.ChangeShapes Go.WideShapes Go.ChangeAt Go.RowKit
set_option linter.unusedVariables false

/-- What is read off the beginning, at most 16 values. -/
def rowRd (l : List UInt8) : Option (List Val3 × List UInt8) :=
  if vrdN l = 0 ∨ 16 < vrdU l then none else match rdT (vrdU l) (l.drop (vrdN l)) with
    | none => none
    | some (ts, r) => rdR ts r
theorem rdAll_row (l : List UInt8) (vs : List Val3) : rdAll l = some vs ↔ ¬ 4000 < l.length ∧ rowRd l = some (vs, []) := by
  unfold rdAll rowRd
  by_cases h4 : 4000 < l.length
  · rw [if_pos h4]
    exact ⟨fun h => (by cases h), fun h => absurd h4 h.1⟩
  rw [if_neg h4]
  by_cases h0 : vrdN l = 0 ∨ 16 < vrdU l
  · rw [if_pos h0, if_pos h0]
    exact ⟨fun h => (by cases h), fun h => (by cases h.2)⟩
  rw [if_neg h0, if_neg h0]
  cases hT : rdT (vrdU l) (l.drop (vrdN l)) with
  | none => exact ⟨fun h => (by cases h), fun h => (by cases h.2)⟩
  | some q =>
    obtain ⟨ts, r⟩ := q
    simp only
    cases hR : rdR ts r with
    | none => exact ⟨fun h => (by cases h), fun h => (by cases h.2)⟩
    | some q2 =>
      obtain ⟨vs', r'⟩ := q2
      simp only
      by_cases hr : r' = []
      · rw [if_pos hr, hr]
        simp [h4]
      · rw [if_neg hr]
        simp [hr]
/-- A list of values as a row in memory. -/
def KV (vs : List Val3) (i : Nat) : Int := (vs.getD i (0, 0, ⟨#[]⟩)).1
def NV (vs : List Val3) (i : Nat) : Int := (vs.getD i (0, 0, ⟨#[]⟩)).2.1
def TV (vs : List Val3) (i : Nat) : ByteArray := (vs.getD i (0, 0, ⟨#[]⟩)).2.2
theorem rowV_of (vs : List Val3) : rowV vs.length (KV vs) (NV vs) (TV vs) = vs := by
  apply List.ext_getElem
  · rw [rowV_length]
  · intro i h1 h2
    simp [rowV, KV, NV, TV, h2]
theorem KV_snoc (vs : List Val3) (v : Val3) (i : Nat) : (i < vs.length → KV (vs ++ [v]) i = KV vs i ∧ NV (vs ++ [v]) i = NV vs i ∧ TV (vs ++ [v]) i = TV vs i) ∧ KV (vs ++ [v]) vs.length = v.1 ∧ NV (vs ++ [v]) vs.length = v.2.1 ∧ TV (vs ++ [v]) vs.length = v.2.2 := by
  refine ⟨fun h => ?_, ?_⟩
  · simp [KV, NV, TV, List.getElem?_append_left h]
  · simp [KV, NV, TV]
theorem extL (l : List UInt8) (n : Nat) : ByteArray.extract ⟨l.toArray⟩ n (ByteArray.size ⟨l.toArray⟩) = ⟨(l.drop n).toArray⟩ := by
  apply ByteArray.ext
  rw [ByteArray.data_extract]
  simp [ByteArray.size]
  exact List.take_of_length_le (by simp)
theorem rowRd_no {l : List UInt8} (h : vrdN l = 0 ∨ 16 < vrdU l) : rowRd l = none := if_pos h
theorem rowRd_T {l : List UInt8} (h : rdT (vrdU l) (l.drop (vrdN l)) = none) : rowRd l = none := by
  unfold rowRd
  split
  · rfl
  · rw [h]
/-- The types read so far. -/
def TyAt (n : Nat) (l0 : List UInt8) (j : Nat) (done : List Nat) (lj : List UInt8) : Prop := done.length = j ∧ rdT n l0 = (rdT (n - j) lj).map fun q => (done ++ q.1, q.2)
theorem TyAt.zero (n : Nat) (l0 : List UInt8) : TyAt n l0 0 [] l0 := ⟨rfl, by cases rdT n l0 <;> simp⟩
theorem TyAt.stop {n j : Nat} {l0 lj : List UInt8} {done : List Nat} (h : TyAt n l0 j done lj) (hj : j < n) (hz : vrdN lj = 0) : rdT n l0 = none := by
  rw [h.2, show n - j = (n - j - 1) + 1 by omega, rdT, if_pos hz]
  rfl
theorem TyAt.next {n j : Nat} {l0 lj : List UInt8} {done : List Nat} (h : TyAt n l0 j done lj) (hj : j < n) (hz : vrdN lj ≠ 0) : TyAt n l0 (j + 1) (done ++ [vrdU lj]) (lj.drop (vrdN lj)) := by
  refine ⟨by simp [h.1], ?_⟩
  rw [h.2, show n - j = (n - (j + 1)) + 1 by omega, rdT, if_neg hz]
  cases rdT (n - (j + 1)) (lj.drop (vrdN lj)) with
  | none => rfl
  | some q => simp
theorem TyAt.all {n : Nat} {l0 lj : List UInt8} {done : List Nat} (h : TyAt n l0 n done lj) : rdT n l0 = some (done, lj) := by
  rw [h.2, Nat.sub_self, rdT]
  simp
/-- Reading values by any reader of one. -/
def rdF (f : Nat → ByteArray → Option (Int × Int × ByteArray × Nat)) : List Nat → List UInt8 → Option (List Val3 × List UInt8)
  | [], l => some ([], l)
  | t :: ts, l => match f t ⟨l.toArray⟩ with
    | none => none
    | some (k, n, A, m) => match rdF f ts (l.drop m) with
      | none => none
      | some (vs, r) => some ((k, n, A) :: vs, r)
theorem rdR_F (ts : List Nat) : ∀ l, rdR ts l = rdF rdV ts l := by
  induction ts with
  | nil => intro l; rfl
  | cons t ts ih =>
    intro l
    rw [rdR, rdF]
    cases rdV t ⟨l.toArray⟩ with
    | none => rfl
    | some q =>
      obtain ⟨k, n, A, m⟩ := q
      show (match rdR ts (l.drop m) with | none => none | some (vs, r) => some ((k, n, A) :: vs, r)) = (match rdF rdV ts (l.drop m) with | none => none | some (vs, r) => some ((k, n, A) :: vs, r))
      rw [ih]
theorem rowRd_R {l : List UInt8} (h : ¬ (vrdN l = 0 ∨ 16 < vrdU l)) {ts : List Nat} {r : List UInt8} (hT : rdT (vrdU l) (l.drop (vrdN l)) = some (ts, r)) : rowRd l = rdF rdV ts r := by
  unfold rowRd
  rw [if_neg h, hT]
  exact rdR_F ts r
theorem rdF_le {f g : Nat → ByteArray → Option (Int × Int × ByteArray × Nat)} (h : ∀ t s x, f t s = some x → g t s = some x) (ts : List Nat) : ∀ l x, rdF f ts l = some x → rdF g ts l = some x := by
  induction ts with
  | nil => intro l x hx; exact hx
  | cons t ts ih =>
    intro l x hx
    rw [rdF] at hx ⊢
    cases hf : f t ⟨l.toArray⟩ with
    | none => rw [hf] at hx; cases hx
    | some q =>
      rw [hf] at hx
      rw [h _ _ _ hf]
      obtain ⟨k, n, A, m⟩ := q
      simp only at hx ⊢
      cases hr : rdF f ts (l.drop m) with
      | none => rw [hr] at hx; cases hx
      | some q2 =>
        rw [hr] at hx
        rw [ih _ _ hr]
        exact hx
/-- The values read so far. -/
def VaAt (f : Nat → ByteArray → Option (Int × Int × ByteArray × Nat)) (ts : List Nat) (l0 : List UInt8) (j : Nat) (done : List Val3) (lj : List UInt8) : Prop := done.length = j ∧ rdF f ts l0 = (rdF f (ts.drop j) lj).map fun q => (done ++ q.1, q.2)
section
variable {f : Nat → ByteArray → Option (Int × Int × ByteArray × Nat)}
theorem VaAt.zero (ts : List Nat) (l0 : List UInt8) : VaAt f ts l0 0 [] l0 := ⟨rfl, by cases h : rdF f ts l0 <;> simp [h]⟩
theorem VaAt.stop {ts : List Nat} {j : Nat} {l0 lj : List UInt8} {done : List Val3} (h : VaAt f ts l0 j done lj) (hj : j < ts.length) (hz : f (ts.getD j 0) ⟨lj.toArray⟩ = none) : rdF f ts l0 = none := by
  rw [h.2, List.drop_eq_getElem_cons hj, rdF]
  rw [← List.getElem_eq_getD (h := hj)] at hz
  rw [hz]
  rfl
theorem VaAt.next {ts : List Nat} {j : Nat} {l0 lj : List UInt8} {done : List Val3} (h : VaAt f ts l0 j done lj) (hj : j < ts.length) {k n : Int} {A : ByteArray} {m : Nat} (hz : f (ts.getD j 0) ⟨lj.toArray⟩ = some (k, n, A, m)) : VaAt f ts l0 (j + 1) (done ++ [(k, n, A)]) (lj.drop m) := by
  refine ⟨by simp [h.1], ?_⟩
  rw [← List.getElem_eq_getD (h := hj)] at hz
  rw [h.2, List.drop_eq_getElem_cons hj, rdF, hz]
  simp only
  cases rdF f (ts.drop (j + 1)) (lj.drop m) with
  | none => rfl
  | some q => simp
theorem VaAt.all {ts : List Nat} {l0 lj : List UInt8} {done : List Val3} (h : VaAt f ts l0 ts.length done lj) : rdF f ts l0 = some (done, lj) := by
  rw [h.2, List.drop_length, rdF]
  simp
end
end Go.Proofs.Ytfjmoiooonialaa
