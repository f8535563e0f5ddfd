/- Package calc: firstNumber, Num, Show, Truth. -/
import Derived.Test.YtoekdeoekcmpgaaGreatDoorKA
namespace Go.Proofs.YtoekdeoekcmpgaaGreatDoor
open Go.ChangeShapes Go.WideShapes Go.ChangeAt Go.RowKit
set_option linter.unusedVariables false

theorem ba_eq (s : ByteArray) : (⟨s.data.toList.toArray⟩ : ByteArray) = s := by cases s with | mk d => simp
theorem ba_size (l : List UInt8) : (⟨l.toArray⟩ : ByteArray).size = l.length := by simp [ByteArray.size]

theorem byte_at0 (t : ByteArray) (h : 0 < t.size) : t.data.toList = (t[0]'h) :: t.data.toList.drop 1 := by
  have := List.drop_eq_getElem_cons (l := t.data.toList) (i := 0) (by simpa using h)
  rw [List.drop_zero] at this
  exact this

set_option maxHeartbeats 1000000 in
set_option maxRecDepth 10000 in
theorem firstNumber_walk (s : ByteArray) (hs : s.size ≤ 1000) (w : World) : Calls Tryz.prog 34 #[.string s] w fun e w' => e = .returned (.string ⟨(firstN s.data.toList).toArray⟩) ∧ Below w.heap.size w w' := by
  have hlen : s.data.toList.length = s.size := by simp
  -- what the code finds behind the digits
  have hsum := digs_rest s.data.toList
  have hnone := digs_none s.data.toList
  obtain ⟨u, hu⟩ : ∃ u : ByteArray, u.data.toList = uns s.data.toList := ⟨⟨(uns s.data.toList).toArray⟩, by simp⟩
  have husz : u.size ≤ 1000 := by
    have h1 := congrArg List.length (sgn_uns s.data.toList)
    have h2 : u.data.toList.length = u.size := by simp
    rw [List.length_append, hlen, ← hu, h2] at h1
    omega
  obtain ⟨b, hb⟩ : ∃ b : ByteArray, b = ⟨(Lib.trimLeftS u.data.toList digitL).toArray⟩ := ⟨_, rfl⟩
  have hbl : b.data.toList = Lib.trimLeftS (uns s.data.toList) digitL := by rw [hb, hu]
  rw [← hbl] at hsum hnone
  have HT : Hid (∀ V, Calls Tryz.prog 35 #[.string u, .string ⟨#[48, 49, 50, 51, 52, 53, 54, 55, 56, 57]⟩] V fun e w' => e = .returned (.string b) ∧ Below V.heap.size V w') := fun V => by rw [hb]; exact tl_digits u V
  have HS : Hid (∀ V, Calls Tryz.prog 63 #[.string s, .string b] V fun e w' => e = .returned (.string ⟨(sgn s.data.toList ++ digs s.data.toList).toArray⟩) ∧ V = w') := fun V => by
    refine (ts_walk s b hs V).mono ?_
    rintro e w1 ⟨rfl, rfl⟩
    refine ⟨?_, rfl⟩
    have : Lib.trimSuffix s.data.toList b.data.toList = sgn s.data.toList ++ digs s.data.toList := by
      conv => lhs; arg 1; rw [← hsum, ← List.append_assoc]
      exact trimSuffix_app _ _
    rw [this]
  have HR : Hid (firstN s.data.toList = if digs s.data.toList = [] then [48] else sgn s.data.toList ++ digs s.data.toList) := rfl
  have hbu : (b.toList == u.toList) = decide (digs s.data.toList = []) := by
    rw [ByteArray.toList_eq, ByteArray.toList_eq, hu]
    by_cases h : digs s.data.toList = []
    · have := hnone.1 h; rw [this]; simp [h]
    · have : ¬ b.data.toList = uns s.data.toList := fun e => h (hnone.2 e)
      simp [h, this]
  rw [HR.out]
  clear hsum hnone hbl hb HR
  rcases Nat.eq_zero_or_pos s.size with h0 | h0
  · have h0l : s.data.toList = [] := List.length_eq_zero_iff.1 (by rw [hlen]; exact h0)
    have hus : u = s := by
      have : uns s.data.toList = s.data.toList := by rw [h0l]; rfl
      rw [this] at hu; rw [← ba_eq u, hu, ba_eq]
    subst hus
    clear hu
    have he : (u.toList == []) = true := by rw [ByteArray.toList_eq, h0l]; rfl
    clear h0l
    have he2 : (u.toList != []) = false := by simp only [bne, he, Bool.not_true]
    have HI : Hid True := trivial
    by_cases hd : digs u.data.toList = []
    · rw [if_pos hd]
      simp only [hd, decide_true] at hbu
      go_enter Tryz.func34, Tryz.ntmps34
      go_wp2_with (first
        | (go_at_call 62; with_reducible refine Calls.mono (HI.out _) ?_; rintro e w1 ⟨rfl, rfl⟩)
        | (go_at_call 35; with_reducible refine Calls.mono (HT.out _) ?_; rintro e w2 ⟨rfl, hb2⟩; have HB2 := hide hb2; clear hb2)
        | (go_at_call 63; with_reducible refine Calls.mono (HS.out _) ?_; rintro e w3 ⟨rfl, rfl⟩))
      go_ret
      exact ⟨rfl, HB2.out⟩
    · rw [if_neg hd]
      simp only [hd, decide_false] at hbu
      go_enter Tryz.func34, Tryz.ntmps34
      go_wp2_with (first
        | (go_at_call 62; with_reducible refine Calls.mono (HI.out _) ?_; rintro e w1 ⟨rfl, rfl⟩)
        | (go_at_call 35; with_reducible refine Calls.mono (HT.out _) ?_; rintro e w2 ⟨rfl, hb2⟩; have HB2 := hide hb2; clear hb2)
        | (go_at_call 63; with_reducible refine Calls.mono (HS.out _) ?_; rintro e w3 ⟨rfl, rfl⟩))
      go_ret
      exact ⟨rfl, HB2.out⟩
  · obtain ⟨c, hc⟩ : ∃ c : UInt8, s[0]'h0 = c := ⟨_, rfl⟩
    have hb0 : ∀ (h : 0 < s.size), ((s[0]'h).toNat : Int) = (c.toNat : Int) := fun h => by rw [hc]
    have hcons : s.data.toList = c :: s.data.toList.drop 1 := by
      have := byte_at0 s h0
      rw [hc] at this; exact this
    have hp : (0 : Int) < (s.size : Int) := by omega
    have hp1 : (1 : Int) ≤ (s.size : Int) := by omega
    have he : (s.toList == []) = false := by rw [ByteArray.toList_eq, hcons]; rfl
    have he2 : (s.toList != []) = true := by simp only [bne, he, Bool.not_false]
    obtain ⟨ix, hix⟩ : ∃ ix, Lib.indexByte [43, 45] c = ix := ⟨_, rfl⟩
    have HI : Hid (∀ V, Calls Tryz.prog 62 #[.string ⟨#[43, 45]⟩, .int .u8 (c.toNat : Int)] V fun e w' => e = .returned (.int .i64 ix) ∧ V = w') := fun V => by rw [← hix]; exact ib_sign c V
    have hsg := sign_iff c
    rw [hix] at hsg
    clear hix
    by_cases hsgn : c = 43 ∨ c = 45
    · have hi0 : (0 : Int) ≤ ix := hsg.2 hsgn
      have hus : u = s.extract 1 s.size := by
        have e1 : uns s.data.toList = s.data.toList.drop 1 := by
          unfold uns
          rw [hcons, sgn_cons, if_pos hsgn]; rfl
        rw [e1] at hu
        rw [← ba_eq u, hu, ← ext_list, ba_eq]
      subst hus
      clear hu hsg hcons hc hsgn
      by_cases hd : digs s.data.toList = []
      · rw [if_pos hd]
        simp only [hd, decide_true] at hbu
        go_enter Tryz.func34, Tryz.ntmps34
        go_wp2_with (first
          | (go_at_call 62; with_reducible refine Calls.mono (HI.out _) ?_; rintro e w1 ⟨rfl, rfl⟩)
          | (go_at_call 35; with_reducible refine Calls.mono (HT.out _) ?_; rintro e w2 ⟨rfl, hb2⟩; have HB2 := hide hb2; clear hb2)
          | (go_at_call 63; with_reducible refine Calls.mono (HS.out _) ?_; rintro e w3 ⟨rfl, rfl⟩))
        go_ret
        exact ⟨rfl, HB2.out⟩
      · rw [if_neg hd]
        simp only [hd, decide_false] at hbu
        go_enter Tryz.func34, Tryz.ntmps34
        go_wp2_with (first
          | (go_at_call 62; with_reducible refine Calls.mono (HI.out _) ?_; rintro e w1 ⟨rfl, rfl⟩)
          | (go_at_call 35; with_reducible refine Calls.mono (HT.out _) ?_; rintro e w2 ⟨rfl, hb2⟩; have HB2 := hide hb2; clear hb2)
          | (go_at_call 63; with_reducible refine Calls.mono (HS.out _) ?_; rintro e w3 ⟨rfl, rfl⟩))
        go_ret
        exact ⟨rfl, HB2.out⟩
    · have hi0 : ¬ (0 : Int) ≤ ix := fun h => hsgn (hsg.1 h)
      have hus : u = s := by
        have e1 : uns s.data.toList = s.data.toList := by
          unfold uns
          rw [hcons, sgn_cons, if_neg hsgn]; rfl
        rw [e1] at hu
        rw [← ba_eq u, hu, ba_eq]
      subst hus
      clear hu hsg hcons hc hsgn
      by_cases hd : digs u.data.toList = []
      · rw [if_pos hd]
        simp only [hd, decide_true] at hbu
        go_enter Tryz.func34, Tryz.ntmps34
        go_wp2_with (first
          | (go_at_call 62; with_reducible refine Calls.mono (HI.out _) ?_; rintro e w1 ⟨rfl, rfl⟩)
          | (go_at_call 35; with_reducible refine Calls.mono (HT.out _) ?_; rintro e w2 ⟨rfl, hb2⟩; have HB2 := hide hb2; clear hb2)
          | (go_at_call 63; with_reducible refine Calls.mono (HS.out _) ?_; rintro e w3 ⟨rfl, rfl⟩))
        go_ret
        exact ⟨rfl, HB2.out⟩
      · rw [if_neg hd]
        simp only [hd, decide_false] at hbu
        go_enter Tryz.func34, Tryz.ntmps34
        go_wp2_with (first
          | (go_at_call 62; with_reducible refine Calls.mono (HI.out _) ?_; rintro e w1 ⟨rfl, rfl⟩)
          | (go_at_call 35; with_reducible refine Calls.mono (HT.out _) ?_; rintro e w2 ⟨rfl, hb2⟩; have HB2 := hide hb2; clear hb2)
          | (go_at_call 63; with_reducible refine Calls.mono (HS.out _) ?_; rintro e w3 ⟨rfl, rfl⟩))
        go_ret
        exact ⟨rfl, HB2.out⟩

end Go.Proofs.YtoekdeoekcmpgaaGreatDoor
