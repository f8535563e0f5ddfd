/- The program's own pairs of signs; how long tokens are, plainly. -/
import Derived.Test.YtkooijhdjjdigaaDoorCA
namespace Go.Proofs.YtkooijhdjjdigaaDoor
open Go.ChangeShapes Go.WideShapes Go.ChangeAt Go.RowKit
set_option linter.unusedVariables false

/-- How many bytes at a text's beginning belong there. -/
def rn (B : UInt8 → Bool) (l : List UInt8) : Nat := (l.takeWhile B).length
theorem rn_nil (B : UInt8 → Bool) : rn B [] = 0 := rfl
theorem rn_cons (B : UInt8 → Bool) (c : UInt8) (r : List UInt8) : rn B (c :: r) = if B c then rn B r + 1 else 0 := by unfold rn; rw [List.takeWhile_cons]; split <;> simp
theorem rn_le (B : UInt8 → Bool) (l : List UInt8) : rn B l ≤ l.length := by unfold rn; exact (List.takeWhile_sublist _).length_le
theorem tl_list (l : List UInt8) : (⟨l.toArray⟩ : ByteArray).toList = l := by rw [ByteArray.toList_eq]
theorem tl_two (a b c d : UInt8) : ((⟨#[a, b]⟩ : ByteArray).toList == (⟨#[c, d]⟩ : ByteArray).toList) = decide (a.toNat = c.toNat ∧ b.toNat = d.toNat) := by
  rw [Bool.eq_iff_iff, ByteArray.toList_eq, ByteArray.toList_eq]
  simp [UInt8.toNat_inj]
theorem cpair (a b : UInt8) (w : World) : Calls Tryd.prog 87 #[.string ⟨#[a, b]⟩] w fun e w' => e = .returned (.bool (paiB a b)) ∧ w = w' := by
  obtain ⟨b1, h1⟩ : ∃ x, ((⟨#[a, b]⟩ : ByteArray).toList == (⟨#[124, 124]⟩ : ByteArray).toList) = x := ⟨_, rfl⟩
  obtain ⟨b2, h2⟩ : ∃ x, ((⟨#[a, b]⟩ : ByteArray).toList == (⟨#[61, 61]⟩ : ByteArray).toList) = x := ⟨_, rfl⟩
  obtain ⟨b3, h3⟩ : ∃ x, ((⟨#[a, b]⟩ : ByteArray).toList == (⟨#[60, 62]⟩ : ByteArray).toList) = x := ⟨_, rfl⟩
  obtain ⟨b4, h4⟩ : ∃ x, ((⟨#[a, b]⟩ : ByteArray).toList == (⟨#[33, 61]⟩ : ByteArray).toList) = x := ⟨_, rfl⟩
  obtain ⟨b5, h5⟩ : ∃ x, ((⟨#[a, b]⟩ : ByteArray).toList == (⟨#[60, 61]⟩ : ByteArray).toList) = x := ⟨_, rfl⟩
  obtain ⟨b6, h6⟩ : ∃ x, ((⟨#[a, b]⟩ : ByteArray).toList == (⟨#[62, 61]⟩ : ByteArray).toList) = x := ⟨_, rfl⟩
  have K : Hid (paiB a b = (b1 || b2 || b3 || b4 || b5 || b6)) := by
    show _ = _
    rw [← h1, ← h2, ← h3, ← h4, ← h5, ← h6]
    simp only [tl_two]
    unfold paiB
    rw [Bool.eq_iff_iff]
    simp
    omega
  go_enter Tryd.func87, Tryd.ntmps87
  go_wp2
  all_goals
    go_ret
    refine ⟨?_, rfl⟩
    rw [K.out]
    clear K
    subst h1 h2 h3 h4 h5 h6
    first | (simp_all; done) | (simp_all; grind)
/-- How many bytes the one token of a kind has that stands at a text's beginning; 0: none does. -/
def siz (k : Nat) (l : List UInt8) : Nat :=
  if k = 1 then (if (l.head?.map letB).getD false then rn (fun c => letB c || digB c) l else 0)
  else if k = 2 then dgs l
  else if k = 3 then (match quo (l.drop 1) with | some n => n + 1 | none => 0)
  else if k = 4 then (match blo false (l.drop 2) with | some n => n + 2 | none => 0)
  else if k = 5 then 1 + dgs (l.drop 1)
  else match l with
    | [] => 0
    | c :: r => if (r.head?.map (paiB c)).getD false then 2 else if sinB c then 1 else 0
/-- The one kind that a token with these first bytes can have. -/
def bgn : List UInt8 → Nat
  | [] => 6
  | c :: r => if c.toNat = 39 then 3 else if c.toNat = 63 then 5 else if (lowB c).toNat = 120 ∧ r.head?.map UInt8.toNat = some 39 then 4 else if letB c then 1 else if digB c then 2 else 6
theorem low_x (c : UInt8) : (lowB c).toNat = 120 ↔ (c.toNat = 120 ∨ c.toNat = 88) := by
  rw [lowB_nat]; split <;> omega
theorem dgs_rn (l : List UInt8) : dgs l = rn digB l := rfl
theorem wrd_rn (l : List UInt8) : wrd l = rn (fun c => letB c || digB c) l := rfl
/-- A token stands where its size is not 0. -/
theorem tok_siz (c : UInt8) (r : List UInt8) : tok (c :: r) = if siz (bgn (c :: r)) (c :: r) = 0 then none else some (siz (bgn (c :: r)) (c :: r), bgn (c :: r)) := by
  unfold tok bgn
  by_cases h1 : c.toNat = 39
  · simp only [if_pos h1]
    simp [siz]
    cases quo r <;> simp
  simp only [if_neg h1]
  by_cases h5 : c.toNat = 63
  · have hn : letB c = false := by simp [letB, h5]
    have hd : digB c = false := by simp [digB, h5]
    simp only [if_pos h5]
    rw [if_neg (by omega), hn, hd]
    simp [siz]
    omega
  simp only [if_neg h5]
  simp only [low_x]
  by_cases h4 : (c.toNat = 120 ∨ c.toNat = 88) ∧ r.head?.map UInt8.toNat = some 39
  · simp only [if_pos h4]
    simp [siz]
    cases blo false r.tail <;> simp
  simp only [if_neg h4]
  cases hl : letB c
  · simp only [Bool.false_eq_true, if_false]
    cases hd : digB c
    · simp only [Bool.false_eq_true, if_false]
      simp [siz]
      split <;> simp
      split <;> simp_all
    · simp [siz, dgs_cons, hd]
  · simp [siz, hl, rn_cons, wrd_rn]
theorem blo_rn : ∀ (b : Bool) (l : List UInt8), blo b l = if (b.toNat + rn hexB l) % 2 = 1 then none else if (l.drop (rn hexB l)).head?.map UInt8.toNat = some 39 then some (rn hexB l + 1) else none
  | b, [] => by simp [blo, rn_nil]
  | b, c :: r => by
    rw [blo, rn_cons]
    by_cases h : c.toNat = 39
    · have hh : hexB c = false := by simp [hexB, h]
      rw [if_pos h, hh]
      cases b <;> simp [h]
    · rw [if_neg h]
      cases hh : hexB c
      · simp [h]
      · simp only [if_true]
        rw [blo_rn (!b) r]
        have e : ((!b).toNat + rn hexB r) % 2 = (b.toNat + (rn hexB r + 1)) % 2 := by cases b <;> simp <;> omega
        rw [e, List.drop_succ_cons]
        split
        · rfl
        · split <;> rfl
end Go.Proofs.YtkooijhdjjdigaaDoor
