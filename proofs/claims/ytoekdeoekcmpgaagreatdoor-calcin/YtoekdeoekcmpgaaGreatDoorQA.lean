/- Plain: a text as a number, as the code has it and as the document has it. Of no program. -/
import Derived.Test.YtoekdeoekcmpgaaGreatDoorPR
import Derived.Lib.SlTrimSet
import Derived.Lib.ParseIntB
namespace Go.Proofs.YtoekdeoekcmpgaaGreatDoor
open Go

def blankL : List UInt8 := [32, 9, 10, 13]
def digitL : List UInt8 := [48, 49, 50, 51, 52, 53, 54, 55, 56, 57]
def digB (c : UInt8) : Bool := digitL.contains c
theorem digB_fin : ∀ c : Fin 256, digitL.contains (UInt8.ofNat c.val) = decide (48 ≤ c.val ∧ c.val ≤ 57) := by decide +kernel
theorem digB_eq (c : UInt8) : digB c = decide (isDig c) := by
  have := digB_fin ⟨c.toNat, UInt8.toNat_lt c⟩
  simp only [UInt8.ofNat_toNat] at this
  unfold digB isDig; exact this
theorem digB_iff (c : UInt8) : digB c = true ↔ isDig c := by rw [digB_eq]; simp

/-- The sign ahead, if there is one. -/
def sgn : List UInt8 → List UInt8
  | c :: _ => if c = 43 ∨ c = 45 then [c] else []
  | [] => []
def uns (s : List UInt8) : List UInt8 := s.drop (sgn s).length
def digs (s : List UInt8) : List UInt8 := (uns s).takeWhile digB
def firstN (s : List UInt8) : List UInt8 := if digs s = [] then [48] else sgn s ++ digs s
def intL (l : List UInt8) : Option Int := match Lib.parseIntB 64 l with | .ok v => some v | _ => none

theorem sgn_cons (c : UInt8) (r : List UInt8) : sgn (c :: r) = if c = 43 ∨ c = 45 then [c] else [] := rfl
theorem sgn_uns (s : List UInt8) : sgn s ++ uns s = s := by
  cases s with
  | nil => rfl
  | cons c r =>
    unfold uns
    rw [sgn_cons]
    by_cases h : c = 43 ∨ c = 45
    · rw [if_pos h]; rfl
    · rw [if_neg h]; rfl
theorem digs_rest (s : List UInt8) : sgn s ++ (digs s ++ Lib.trimLeftS (uns s) digitL) = s := by
  have h : digs s ++ Lib.trimLeftS (uns s) digitL = uns s := List.takeWhile_append_dropWhile
  rw [h, sgn_uns]
theorem digs_none (s : List UInt8) : digs s = [] ↔ Lib.trimLeftS (uns s) digitL = uns s := by
  have h : digs s ++ Lib.trimLeftS (uns s) digitL = uns s := List.takeWhile_append_dropWhile
  constructor
  · intro e; rw [e] at h; exact h
  · intro e
    rw [e] at h
    have := congrArg List.length h
    simp at this
    exact this
theorem digs_dig (s : List UInt8) : ∀ c ∈ digs s, isDig c := fun c hc => by
  have : ∀ (l : List UInt8), c ∈ l.takeWhile digB → digB c = true := by
    intro l
    induction l with
    | nil => intro h; simp at h
    | cons a r ih =>
      intro h
      rw [List.takeWhile_cons] at h
      by_cases ha : digB a = true
      · rw [if_pos ha] at h
        rcases List.mem_cons.1 h with rfl | h
        · exact ha
        · exact ih h
      · rw [if_neg ha] at h; simp at h
  exact (digB_iff c).1 (this _ hc)
theorem sgn_cases (s : List UInt8) : sgn s = [] ∨ sgn s = [43] ∨ sgn s = [45] := by
  cases s with
  | nil => exact .inl rfl
  | cons c r =>
    rw [sgn_cons]
    by_cases h : c = 43 ∨ c = 45
    · rw [if_pos h]; rcases h with rfl | rfl
      · exact .inr (.inl rfl)
      · exact .inr (.inr rfl)
    · rw [if_neg h]; exact .inl rfl

def valueOf (sg ds : List UInt8) : Option Int :=
  if sg = [45] then (if spell 0 ds ≤ 9223372036854775808 then some (-(spell 0 ds : Int)) else none)
  else if spell 0 ds ≤ 9223372036854775807 then some (spell 0 ds : Int) else none

theorem parse_digits : ∀ (ds : List UInt8) (acc : Nat), (∀ c ∈ ds, isDig c) → acc ≤ 18446744073709551615 → Lib.parseUintM 18446744073709551615 acc ds = if spell acc ds ≤ 18446744073709551615 then .ok (spell acc ds) else .range
  | [], acc, _, h => by rw [spell_nil, Lib.parseUintM, if_pos h]
  | c :: r, acc, hd, h => by
    have hc := hd c (by simp)
    have ge := spell_ge r (acc * 10 + dgt c)
    rw [spell_cons, Lib.parseUintM, if_pos (show 48 ≤ c.toNat ∧ c.toNat ≤ 57 from hc)]
    have e := dgt_eq c
    by_cases h1 : 1844674407370955162 ≤ acc
    · rw [if_pos h1, if_neg (by omega)]
    · rw [if_neg h1, ← e]
      by_cases h2 : 18446744073709551615 < acc * 10 + dgt c
      · rw [if_pos h2, if_neg (by omega)]
      · rw [if_neg h2]
        exact parse_digits r _ (fun c hc => hd c (by simp [hc])) (by omega)

theorem parse_mag (ds : List UInt8) (hd : ∀ c ∈ ds, isDig c) (hne : ds ≠ []) : Lib.parseUintB 64 ds = if spell 0 ds ≤ 18446744073709551615 then .ok (spell 0 ds) else .range := by
  rw [Lib.parseUintB, if_neg hne]
  exact parse_digits ds 0 hd (by omega)

theorem intOf_digits (sg ds : List UInt8) (hs : sg = [] ∨ sg = [43] ∨ sg = [45]) (hd : ∀ c ∈ ds, isDig c) (hne : ds ≠ []) : intL (sg ++ ds) = valueOf sg ds := by
  have hm := parse_mag ds hd hne
  have key : Lib.parseIntB 64 (sg ++ ds) = (match Lib.parseUintB 64 ds with | .syntax => .syntax | .range => .range | .ok u => if ¬ sg = [45] ∧ 9223372036854775808 ≤ u then .range else if sg = [45] ∧ 9223372036854775808 < u then .range else .ok (if sg = [45] then -(u : Int) else u)) := by
    rcases hs with rfl | rfl | rfl
    · cases ds with
      | nil => exact absurd rfl hne
      | cons c r =>
        have hc := hd c (by simp)
        have h1 : ¬ (c.toNat = 43 ∨ c.toNat = 45) := by unfold isDig at hc; omega
        have h2 : ¬ c.toNat = 45 := by omega
        simp only [List.nil_append, Lib.parseIntB, if_neg h1]
        cases Lib.parseUintB 64 (c :: r) <;> simp [h2]
    · simp only [List.cons_append, List.nil_append, Lib.parseIntB, Nat.reducePow, Nat.reduceSub]
      rw [if_pos (by decide)]
      cases Lib.parseUintB 64 ds <;> simp
    · simp only [List.cons_append, List.nil_append, Lib.parseIntB, Nat.reducePow, Nat.reduceSub]
      rw [if_pos (by decide)]
      cases Lib.parseUintB 64 ds <;> simp
  unfold intL valueOf
  rw [key, hm]
  by_cases h0 : spell 0 ds ≤ 18446744073709551615
  · rw [if_pos h0]
    simp only
    by_cases hsg : sg = [45]
    · simp only [hsg, not_true_eq_false, false_and, if_false, true_and, if_true]
      by_cases h1 : 9223372036854775808 < spell 0 ds
      · rw [if_pos h1, if_neg (by omega)]
      · rw [if_neg h1, if_pos (by omega)]
    · simp only [hsg, not_false_eq_true, true_and, false_and, if_false]
      by_cases h1 : 9223372036854775808 ≤ spell 0 ds
      · rw [if_pos h1, if_neg (by omega)]
      · rw [if_neg h1, if_pos (by omega)]
  · rw [if_neg h0]
    simp only
    by_cases hsg : sg = [45]
    · rw [if_pos hsg, if_neg (by omega)]
    · rw [if_neg hsg, if_neg (by omega)]

/-- A text as a number, as the code has it. -/
def numT (t : List UInt8) : Option Int := intL (firstN (Lib.trimLeftS t blankL))

/-- The document's: zeros ahead cut off. -/
def strip : List UInt8 → List UInt8
  | c :: d :: r => if c = 48 then strip (d :: r) else c :: d :: r
  | l => l
def num3 (sg ds : List UInt8) : Option Int := numR (if sg = [45] ∧ strip ds ≠ [48] then 45 :: strip ds else strip ds)

theorem strip_facts : ∀ (ds : List UInt8), ds ≠ [] → (∀ c ∈ ds, isDig c) → (∀ c ∈ strip ds, isDig c) ∧ spell 0 (strip ds) = spell 0 ds ∧ ∃ c r, strip ds = c :: r ∧ (c = 48 → r = [])
  | [], h, _ => absurd rfl h
  | [c], _, hd => ⟨hd, rfl, c, [], rfl, fun _ => rfl⟩
  | c :: d :: r, _, hd => by
    by_cases hc : c = 48
    · have ih := strip_facts (d :: r) (by simp) (fun x hx => hd x (by simp at hx ⊢; exact .inr hx))
      rw [strip, if_pos hc]
      refine ⟨ih.1, ?_, ih.2.2⟩
      rw [ih.2.1, spell_cons 0 c, hc]
      rfl
    · rw [strip, if_neg hc]
      exact ⟨hd, rfl, c, d :: r, rfl, fun h => absurd h hc⟩

theorem num3_value (sg ds : List UInt8) (hd : ∀ c ∈ ds, isDig c) (hne : ds ≠ []) : num3 sg ds = valueOf sg ds := by
  obtain ⟨h1, h2, c, r, h3, h4⟩ := strip_facts ds hne hd
  have hc : isDig c := h1 c (by rw [h3]; simp)
  unfold num3 valueOf
  rw [← h2]
  by_cases hsg : sg = [45]
  · by_cases hz : strip ds = [48]
    · rw [if_neg (fun h => h.2 hz), if_pos hsg, hz]
      decide
    · rw [if_pos ⟨hsg, hz⟩, if_pos hsg]
      have hc48 : c ≠ 48 := fun e => hz (by rw [h3, h4 e, e])
      have e : numR (45 :: strip ds) = numLoop true 0 (strip ds) := by
        rw [h3]; unfold numR
        simp only [List.head?_cons, if_true, List.tail_cons, if_neg hc48]
      rw [e]
      by_cases hb : spell 0 (strip ds) ≤ 9223372036854775808
      · rw [if_pos hb]
        have := loop_neg_mk (strip ds) 0 h1 hb
        simpa using this
      · rw [if_neg hb]
        cases hl : numLoop true 0 (strip ds) with
        | none => rfl
        | some m =>
          obtain ⟨_, d2, d3⟩ := loop_neg (strip ds) 0 m (by simpa using hl) (by omega)
          omega
  · rw [if_neg (fun h => hsg h.1), if_neg hsg]
    have e : numR (strip ds) = numLoop false 0 (strip ds) := by
      rw [h3]; unfold numR
      have h45 : ¬ (c :: r).head? = some 45 := by
        simp; intro e; rw [e] at hc; revert hc; unfold isDig; decide
      rw [if_neg h45]
      simp only
      rw [if_neg (fun h => h.2 (h4 h.1))]
    rw [e]
    by_cases hb : spell 0 (strip ds) ≤ 9223372036854775807
    · rw [if_pos hb]
      have := loop_pos_mk (strip ds) 0 h1 hb
      simpa using this
    · rw [if_neg hb]
      cases hl : numLoop false 0 (strip ds) with
      | none => rfl
      | some m =>
        obtain ⟨_, d2, d3⟩ := loop_pos (strip ds) 0 m (by simpa using hl) (by omega)
        omega

theorem intOf_firstN (s : List UInt8) : intL (firstN s) = if digs s = [] then some 0 else num3 (sgn s) (digs s) := by
  unfold firstN
  by_cases h : digs s = []
  · rw [if_pos h, if_pos h]; decide
  · rw [if_neg h, if_neg h, num3_value _ _ (digs_dig s) h, intOf_digits _ _ (sgn_cases s) (digs_dig s) h]

end Go.Proofs.YtoekdeoekcmpgaaGreatDoor
