/- The document's Read, at every text. -/
import Derived.Test.YtghemaghbpekfaaDoorRT
namespace Go.Proofs.YtghemaghbpekfaaDoor
open Go.ChangeShapes Go.WideShapes Go.ChangeAt Go.RowKit
set_option linter.unusedVariables false

theorem at_is (s : ByteArray) (i : Nat) (h : i < s.size) (c : UInt8) : s.data.toList[i]? = some c ↔ (s[i]'h).toNat = c.toNat := by
  have e : s.data.toList[i]? = some (s[i]'h) := by
    rw [Array.getElem?_toList]
    exact Array.getElem?_eq_getElem (by simpa using h)
  rw [e]
  constructor
  · intro h; rw [Option.some.inj h]
  · intro h; rw [UInt8.toNat_inj.1 h]

def refV : Option (Int × Int × List UInt8) → Value
  | some (k, n, t) => .tuple #[val k n ⟨t.toArray⟩, .int .i64 0]
  | none => .tuple #[val 0 0 ⟨#[]⟩, .int .i64 120]

theorem rread_opt (s : ByteArray) (hs : s.size ≤ 1000) (w : World) : Calls Tryd.prog 19 #[.string s] w fun e w' => e = .returned (refV (readR s.data.toList)) ∧ Below w.heap.size w w' := by
  by_cases hnull : s.data.toList = nullL
  · rw [readR, if_pos hnull]; exact rread_null s hnull w
  rw [readR, if_neg hnull]
  have hlen : s.data.toList.length = s.size := by simp
  cases hm : numR s.data.toList with
  | some n => exact rread_num s hs hnull n hm w
  | none =>
    simp only [hlen]
    by_cases hx : s.data.toList.head? = some 120
    · rw [if_pos hx]
      rw [List.head?_eq_getElem?] at hx
      have h0 : 0 < s.size := by
        rcases Nat.eq_zero_or_pos s.size with h | h
        · rw [List.getElem?_eq_none (by omega)] at hx; cases hx
        · exact h
      have hx0 := (at_is s 0 h0 120).1 hx
      by_cases h3 : s.size < 3
      · rw [if_pos (.inl h3)]; exact rread_badA s hs hnull hm h0 h3 hx0 w
      by_cases hq : s.data.toList[1]? = some 39
      · have hq1 := (at_is s 1 (by omega) 39).1 hq
        by_cases hz : s.data.toList[s.size - 1]? = some 39
        · have hz1 := (at_is s (s.size - 1) (by omega) 39).1 hz
          rw [if_neg (fun h => h.elim h3 (fun h => h.elim (fun h => h hq) (fun h => h hz)))]
          have H := rread_blob s hs hnull hm (by omega) hx0 hq1 hz1 w _ rfl
          cases ho : unhx (List.take (s.size - 3) (List.drop 2 s.data.toList)) with
          | none => rw [ho] at H; exact H
          | some b =>
            rw [ho] at H
            by_cases h4 : b.length ≤ 400
            · simp only [readV, if_pos h4] at H; simp only [if_pos h4, refV]; exact H
            · simp only [readV, if_neg h4] at H; simp only [if_neg h4, refV]; exact H
        · rw [if_pos (.inr (.inr hz))]
          exact rread_badC s hs hnull hm (by omega) hx0 hq1 (fun h => hz ((at_is s (s.size - 1) (by omega) 39).2 h)) w
      · rw [if_pos (.inr (.inl hq))]
        exact rread_badB s hs hnull hm (by omega) hx0 (fun h => hq ((at_is s 1 (by omega) 39).2 h)) w
    · rw [if_neg hx]
      rw [List.head?_eq_getElem?] at hx
      by_cases h2 : s.size < 2
      · rw [if_pos (.inl h2)]
        rcases Nat.eq_zero_or_pos s.size with h | h
        · exact rread_badD s hs hnull hm h w
        · exact rread_badE s hs hnull hm (by omega) (fun h' => hx ((at_is s 0 h 120).2 h')) w
      by_cases hq : s.data.toList[0]? = some 39
      · have hq1 := (at_is s 0 (by omega) 39).1 hq
        by_cases hz : s.data.toList[s.size - 1]? = some 39
        · have hz1 := (at_is s (s.size - 1) (by omega) 39).1 hz
          rw [if_neg (fun h => h.elim h2 (fun h => h.elim (fun h => h hq) (fun h => h hz)))]
          have H := rread_text s hs hnull hm (by omega) hq1 hz1 w _ rfl
          cases ho : unq (List.take (s.size - 2) (List.drop 1 s.data.toList)) with
          | none => rw [ho] at H; exact H
          | some b =>
            rw [ho] at H
            by_cases h4 : b.length ≤ 400
            · simp only [readV, if_pos h4] at H; simp only [if_pos h4, refV]; exact H
            · simp only [readV, if_neg h4] at H; simp only [if_neg h4, refV]; exact H
        · rw [if_pos (.inr (.inr hz))]
          exact rread_badG s hs hnull hm (by omega) hq1 (fun h => hz ((at_is s (s.size - 1) (by omega) 39).2 h)) w
      · rw [if_pos (.inr (.inl hq))]
        exact rread_badF s hs hnull hm (by omega) (fun h' => hx ((at_is s 0 (by omega) 120).2 h')) (fun h => hq ((at_is s 0 (by omega) 39).2 h)) w

theorem ref_of_reads {s : List UInt8} {k n : Int} {t : List UInt8} {c : Int} (h : readsAs s k n t c) : refAs s k n t c := by
  rcases h with ⟨h1, rfl, rfl, rfl, rfl⟩ | ⟨h1, hm, hp, rfl, rfl, rfl, rfl⟩ | ⟨h1, hn, rfl, rfl, rfl, rfl⟩
  · exact .inl ⟨h1, rfl, rfl, rfl, rfl⟩
  · have hr := guessN_range s
    have := readR_print hr.1 hr.2 hm
    rw [hp] at this
    exact .inr (.inl ⟨h1, this, rfl⟩)
  · refine .inr (.inr ⟨h1, ?_, rfl, rfl, rfl, rfl⟩)
    cases hR : readR s with
    | none => rfl
    | some x => exact absurd (readR_guess hR) hn

theorem rread_walk (s : ByteArray) (k n : Int) (t : ByteArray) (c : Int) (h : readsAs s.data.toList k n t.data.toList c) (w : World) :
    Calls Tryd.prog 19 #[.string s] w fun e w' => e = .returned (.tuple #[.agg #[.int .i64 k, .int .i64 n, .string t], .int .i64 c]) ∧ Below w.heap.size w w' := by
  have ht : (⟨t.data.toList.toArray⟩ : ByteArray) = t := by cases t with | mk d => simp
  rcases ref_of_reads h with ⟨h1, rfl, rfl, h4, rfl⟩ | ⟨h1, hr, rfl⟩ | ⟨h1, hr, rfl, rfl, h4, rfl⟩
  · rw [h4] at ht; rw [← ht]; exact rread_long s (by simpa using h1) w
  · have := rread_opt s (by simpa using h1) w
    rw [hr] at this
    simp only [refV, ht] at this
    exact this
  · have := rread_opt s (by simpa using h1) w
    rw [hr] at this
    rw [h4] at ht; rw [← ht]
    exact this
end Go.Proofs.YtghemaghbpekfaaDoor
