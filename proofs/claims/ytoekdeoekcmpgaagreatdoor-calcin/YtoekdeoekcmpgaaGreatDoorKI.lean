/- The document's Num, Text, Show, Truth. -/
import Derived.Test.YtoekdeoekcmpgaaGreatDoorKH
namespace Go.Proofs.YtoekdeoekcmpgaaGreatDoor
open Go.ChangeShapes Go.WideShapes Go.ChangeAt Go.RowKit
set_option linter.unusedVariables false

set_option maxHeartbeats 1000000 in
set_option maxRecDepth 10000 in
theorem rnum_no (k n : Int) (t : ByteArray) (hm : mayB k n t = false) (w : World) : Calls Tryz.prog 13 #[val k n t] w fun e w' => e = .returned (val 0 0 ⟨#[]⟩) ∧ Below w.heap.size w w' := by
  have HM : Hid (∀ V, Calls Tryz.prog 36 #[.agg #[.int .i64 k, .int .i64 n, .string t]] V fun e w' => e = .returned (.bool false) ∧ Below V.heap.size V w') := fun V => by have := rmay_walk k n t V; rw [hm] at this; exact this
  have HW : Hid (∀ V, _ → _) := pr_later w k n t
  clear hm
  go_enter Tryz.func13, Tryz.ntmps13
  go_wp2_with (first
    | (go_at_call 36; with_reducible refine Calls.mono (HM.out _) ?_; rintro e w1 ⟨rfl, hb1⟩; obtain ⟨⟨p0, p1, p2⟩, q0, q1, q2, ⟨d0, d1, d2, f0, f1, f2⟩, HK1, HB1⟩ := HW.out _ hb1; have HX1 := hide hb1; clear hb1)
    | (go_at_call 37; with_reducible refine Calls.mono (rnull_walk _) ?_; rintro e w2 ⟨rfl, hb2⟩; obtain ⟨⟨p0, p1, p2⟩, q0, q1, q2, ⟨d0, d1, d2, f0, f1, f2⟩, HK2, HB2⟩ := HW.out _ (below_trans HX1.out hb2); clear hb2))
  exact ret_val Tryz.results13 rfl HK2.out ⟨rfl, below_set3g HB2.out (Nat.le_succ _) _ _ _⟩

set_option maxHeartbeats 1000000 in
set_option maxRecDepth 10000 in
theorem rnum_null (w : World) : Calls Tryz.prog 13 #[val 0 0 ⟨#[]⟩] w fun e w' => e = .returned (val 0 0 ⟨#[]⟩) ∧ Below w.heap.size w w' := by
  have HM : Hid (∀ V, Calls Tryz.prog 36 #[.agg #[.int .i64 0, .int .i64 0, .string ⟨#[]⟩]] V fun e w' => e = .returned (.bool true) ∧ Below V.heap.size V w') := fun V => rmay_walk 0 0 ⟨#[]⟩ V
  have HW : Hid (∀ V, _ → _) := pr_later w 0 0 ⟨#[]⟩
  go_enter Tryz.func13, Tryz.ntmps13
  go_wp2_with (first
    | (go_at_call 36; with_reducible refine Calls.mono (HM.out _) ?_; rintro e w1 ⟨rfl, hb1⟩; obtain ⟨⟨p0, p1, p2⟩, q0, q1, q2, ⟨d0, d1, d2, f0, f1, f2⟩, HK1, HB1⟩ := HW.out _ hb1; have HX1 := hide hb1; clear hb1)
    | (go_at_call 37; with_reducible refine Calls.mono (rnull_walk _) ?_; rintro e w2 ⟨rfl, hb2⟩; obtain ⟨⟨p0, p1, p2⟩, q0, q1, q2, ⟨d0, d1, d2, f0, f1, f2⟩, HK2, HB2⟩ := HW.out _ (below_trans HX1.out hb2); clear hb2))
  exact ret_val Tryz.results13 rfl HK2.out ⟨rfl, below_set3g HB2.out (Nat.le_succ _) _ _ _⟩

set_option maxHeartbeats 1000000 in
set_option maxRecDepth 10000 in
theorem rnum_int (n : Int) (w : World) : Calls Tryz.prog 13 #[val 1 n ⟨#[]⟩] w fun e w' => e = .returned (val 1 n ⟨#[]⟩) ∧ Below w.heap.size w w' := by
  have HM : Hid (∀ V, Calls Tryz.prog 36 #[.agg #[.int .i64 1, .int .i64 n, .string ⟨#[]⟩]] V fun e w' => e = .returned (.bool true) ∧ Below V.heap.size V w') := fun V => rmay_walk 1 n ⟨#[]⟩ V
  have HW : Hid (∀ V, _ → _) := pr_later w 1 n ⟨#[]⟩
  go_enter Tryz.func13, Tryz.ntmps13
  go_wp2_with (first
    | (go_at_call 36; with_reducible refine Calls.mono (HM.out _) ?_; rintro e w1 ⟨rfl, hb1⟩; obtain ⟨⟨p0, p1, p2⟩, q0, q1, q2, ⟨d0, d1, d2, f0, f1, f2⟩, HK1, HB1⟩ := HW.out _ hb1; have HX1 := hide hb1; clear hb1))
  exact ret_val Tryz.results13 rfl HK1.out ⟨rfl, below_set3g HB1.out (Nat.le_succ _) _ _ _⟩

theorem trimL_nil : Lib.trimLeftS [] blankL = [] := rfl
theorem trimL_cons (c : UInt8) (r : List UInt8) : Lib.trimLeftS (c :: r) blankL = if blankB c = true then Lib.trimLeftS r blankL else c :: r := by
  unfold Lib.trimLeftS
  rw [List.dropWhile_cons]
  rfl
theorem lead_take (X : List UInt8) (h : digs X ≠ []) : X.take (leadN X) = sgn X ++ digs X := by
  unfold leadN
  rw [if_neg h]
  have := digs_rest X
  conv => lhs; arg 2; rw [← this, ← List.append_assoc]
  rw [← List.length_append, List.take_left]
theorem lead_le (X : List UInt8) : leadN X ≤ X.length := by
  unfold leadN
  have := congrArg List.length (digs_rest X)
  simp only [List.length_append] at this
  split <;> omega

set_option maxHeartbeats 2000000 in
set_option maxRecDepth 10000 in
theorem rnum_text (k : Int) (hk : k = 2 ∨ k = 3) (t : ByteArray) (ht : t.size ≤ 400) (w : World) : Calls Tryz.prog 13 #[val k 0 t] w fun e w' => e = .returned (optV (numT t.data.toList)) ∧ Below w.heap.size w w' := by
  have hm : mayB k 0 t = true := by rcases hk with rfl | rfl <;> (first | rw [may2] | rw [may3]) <;> simpa using ht
  have HM : Hid (∀ V, Calls Tryz.prog 36 #[.agg #[.int .i64 k, .int .i64 0, .string t]] V fun e w' => e = .returned (.bool true) ∧ Below V.heap.size V w') := fun V => by have := rmay_walk k 0 t V; rw [hm] at this; exact this
  have HW : Hid (∀ V, _ → _) := pr_later w k 0 t
  obtain ⟨o, ho⟩ : ∃ o, numT t.data.toList = o := ⟨_, rfl⟩
  rw [ho]
  have HO : Hid (∀ x : ByteArray, x.data.toList = Lib.trimLeftS t.data.toList blankL → (if digs x.data.toList = [] then some 0 else num3 (sgn x.data.toList) (digs x.data.toList)) = o) := fun x hx => by
    rw [← ho, ← intOf_firstN, hx]; rfl
  clear hm ho
  have k0 : (k == 0) = false := by rcases hk with rfl | rfl <;> rfl
  have k1 : (k == 1) = false := by rcases hk with rfl | rfl <;> rfl
  clear hk
  go_enter Tryz.func13, Tryz.ntmps13
  go_wp2_with (first
    | (go_at_call 36; with_reducible refine Calls.mono (HM.out _) ?_; rintro e w1 ⟨rfl, hb1⟩; obtain ⟨⟨p0, p1, p2⟩, q0, q1, q2, ⟨d0, d1, d2, f0, f1, f2⟩, HK1, HB1⟩ := HW.out _ hb1; have HX1 := hide hb1; clear hb1))
  go_loopw [3] (fun sv wr => ∃ x : ByteArray, sv = .string x ∧ x.size ≤ 400 ∧ Lib.trimLeftS x.data.toList blankL = Lib.trimLeftS t.data.toList blankL ∧ wr = w1) (fun sv _ => strSz sv)
  case atStart => exact ⟨t, rfl, ht, rfl, rfl⟩
  case round =>
    obtain ⟨x, rfl, hx4, hst, rfl⟩ := hrel
    have hxl : x.data.toList.length = x.size := by simp
    by_cases hx0 : x.data.toList = []
    · have l0 : ¬ (0 : Int) < (x.size : Int) := by have := hxl; rw [hx0] at this; simp at this; omega
      have hx' : x.data.toList = Lib.trimLeftS t.data.toList blankL := by rw [← hst, hx0]; rfl
      have HXT : Hid (x.data.toList = Lib.trimLeftS t.data.toList blankL) := hx'
      have HX0 : Hid (digs x.data.toList = []) := by rw [hx0]; exact rfl
      clear hx' hst hx0
      by_cases hd : digs x.data.toList = []
      · have ho := HO.out x HXT.out
        rw [if_pos hd] at ho
        subst ho
        have HL : Hid (∀ V, Calls Tryz.prog 39 #[.string x] V fun e w' => e = .returned (.int .i64 0) ∧ V = w') := fun V => by have := rlead_walk x (by omega) V; unfold leadN at this; rw [if_pos hd] at this; exact this
        clear hd
        go_wp2_with (first
          | (go_at_call 39; with_reducible refine Calls.mono (HL.out _) ?_; rintro e w3 ⟨rfl, rfl⟩)
          | (go_at_call 31; with_reducible refine Calls.mono (rint_walk _ _) ?_; rintro e w2 ⟨rfl, hb2⟩; obtain ⟨⟨p0, p1, p2⟩, q0, q1, q2, ⟨d0, d1, d2, f0, f1, f2⟩, HK2, HB2⟩ := HW.out _ (below_trans HX1.out hb2); clear hb2))
        exact ret_val Tryz.results13 rfl HK2.out ⟨rfl, below_set3g HB2.out (Nat.le_succ _) _ _ _⟩
      · exact absurd HX0.out hd
    · obtain ⟨c, r, h0, hcl, hxc, hrl⟩ := cons_of x hx0
      have l0 : (0 : Int) < (x.size : Int) := by omega
      have l1 : (1 : Int) ≤ (x.size : Int) := by omega
      have hbx : ∀ (h : 0 < x.size), ((x[0]'h).toNat : Int) = (c.toNat : Int) := fun h => by rw [hxc]
      by_cases hb : blankB c = true
      · have HF : Hid (∀ V, Calls Tryz.prog 38 #[.int .u8 (c.toNat : Int)] V fun e w' => e = .returned (.bool true) ∧ V = w') := fun V => by have := rblank_walk c V; rw [hb] at this; exact this
        have HR : Hid ((x.extract 1 x.size).size ≤ 400 ∧ Lib.trimLeftS (x.extract 1 x.size).data.toList blankL = Lib.trimLeftS t.data.toList blankL ∧ (x.extract 1 x.size).size < x.size) := by
          have e1 := ext_list x 1
          rw [hcl] at e1
          have e2 : (x.extract 1 x.size).size = x.size - 1 := by rw [ByteArray.size_extract]; omega
          refine ⟨by omega, ?_, by omega⟩
          rw [e1, ← hst, hcl, trimL_cons, if_pos hb]; rfl
        clear hb hst hx0 hcl hxc hrl hxl
        go_wp2_with (first
          | (go_at_call 38; with_reducible refine Calls.mono (HF.out _) ?_; rintro e w3 ⟨rfl, rfl⟩))
        go_roundw
        case rel => exact ⟨_, rfl, HR.out.1, HR.out.2.1, by first | rfl | trivial⟩
        case measure => exact HR.out.2.2
      · have hb' : blankB c = false := by simpa using hb
        have HF : Hid (∀ V, Calls Tryz.prog 38 #[.int .u8 (c.toNat : Int)] V fun e w' => e = .returned (.bool false) ∧ V = w') := fun V => by have := rblank_walk c V; rw [hb'] at this; exact this
        have hx' : x.data.toList = Lib.trimLeftS t.data.toList blankL := by rw [← hst, hcl, trimL_cons, if_neg hb]
        have HXT : Hid (x.data.toList = Lib.trimLeftS t.data.toList blankL) := hx'
        clear hx' hst hx0 hcl hxc hrl hb hb'
        by_cases hd : digs x.data.toList = []
        · have ho := HO.out x HXT.out
          rw [if_pos hd] at ho
          subst ho
          have HL : Hid (∀ V, Calls Tryz.prog 39 #[.string x] V fun e w' => e = .returned (.int .i64 0) ∧ V = w') := fun V => by have := rlead_walk x (by omega) V; unfold leadN at this; rw [if_pos hd] at this; exact this
          clear hd
          go_wp2_with (first
            | (go_at_call 38; with_reducible refine Calls.mono (HF.out _) ?_; rintro e w3 ⟨rfl, rfl⟩)
            | (go_at_call 39; with_reducible refine Calls.mono (HL.out _) ?_; rintro e w3 ⟨rfl, rfl⟩)
            | (go_at_call 31; with_reducible refine Calls.mono (rint_walk _ _) ?_; rintro e w2 ⟨rfl, hb2⟩; obtain ⟨⟨p0, p1, p2⟩, q0, q1, q2, ⟨d0, d1, d2, f0, f1, f2⟩, HK2, HB2⟩ := HW.out _ (below_trans HX1.out hb2); clear hb2))
          exact ret_val Tryz.results13 rfl HK2.out ⟨rfl, below_set3g HB2.out (Nat.le_succ _) _ _ _⟩
        · have ho := HO.out x HXT.out
          rw [if_neg hd] at ho
          obtain ⟨m, hm⟩ : ∃ m, leadN x.data.toList = m := ⟨_, rfl⟩
          have hm0 : m ≠ 0 := by
            rw [← hm]; unfold leadN; rw [if_neg hd]
            have := List.length_pos_iff.2 hd
            omega
          have hmle : m ≤ x.size := by rw [← hm, ← hxl]; exact lead_le _
          have HL : Hid (∀ V, Calls Tryz.prog 39 #[.string x] V fun e w' => e = .returned (.int .i64 (m : Int)) ∧ V = w') := fun V => by have := rlead_walk x (by omega) V; rw [hm] at this; exact this
          have hxe : (x.extract 0 m).data.toList = sgn x.data.toList ++ digs x.data.toList := by
            rw [← lead_take _ hd, hm, Lib.extract_eq]
            show List.take _ _ = _
            simp
          obtain ⟨a1, a2, a3, hv⟩ : ∃ a1 a2 a3, optV o = val a1 a2 a3 := by cases o with | none => exact ⟨_, _, _, rfl⟩ | some m => exact ⟨_, _, _, rfl⟩
          have HN : Hid (∀ V, Calls Tryz.prog 40 #[.string (x.extract 0 m)] V fun e w' => e = .returned (val a1 a2 a3) ∧ Below V.heap.size V w') := fun V => by
            rw [← hv, ← ho]
            exact rnum3_walk _ (by rw [ByteArray.size_extract]; omega) _ _ (sgn_cases _) hxe (digs_dig _) hd V
          have HV : Hid (optV o = val a1 a2 a3) := hv
          have m1 : ¬ (m : Int) = 0 := by omega
          have m2 : ((m : Int) == 0) = false := by simp; omega
          have m3 : (0 : Int) ≤ (m : Int) := by omega
          have m4 : (m : Int) ≤ (x.size : Int) := by omega
          clear hd ho hm hxe hv
          go_wp2_with (first
            | (go_at_call 38; with_reducible refine Calls.mono (HF.out _) ?_; rintro e w3 ⟨rfl, rfl⟩)
            | (go_at_call 39; with_reducible refine Calls.mono (HL.out _) ?_; rintro e w3 ⟨rfl, rfl⟩)
            | (go_at_call 40; with_reducible refine Calls.mono (HN.out _) ?_; rintro e w2 ⟨rfl, hb2⟩; obtain ⟨⟨p0, p1, p2⟩, q0, q1, q2, ⟨d0, d1, d2, f0, f1, f2⟩, HK2, HB2⟩ := HW.out _ (below_trans HX1.out hb2); clear hb2))
          exact ret_val Tryz.results13 rfl HK2.out ⟨by rw [HV.out], below_set3g HB2.out (Nat.le_succ _) _ _ _⟩

theorem rnum_walk (k n : Int) (t : ByteArray) (w : World) : Calls Tryz.prog 13 #[val k n t] w fun e w' => e = .returned (optV (numO k n t.data.toList)) ∧ Below w.heap.size w w' := by
  unfold numO
  by_cases hm : MayL k n t.data.toList
  · rw [if_pos hm]
    rcases hm with ⟨rfl, rfl, h⟩ | ⟨rfl, h⟩ | ⟨hk, rfl, h⟩
    · obtain rfl : t = ⟨#[]⟩ := by rw [← ba_eq t, h]
      exact rnum_null w
    · obtain rfl : t = ⟨#[]⟩ := by rw [← ba_eq t, h]
      exact rnum_int n w
    · rw [if_neg (by omega), if_pos hk]
      exact rnum_text k hk t (by simpa using h) w
  · rw [if_neg hm]
    exact rnum_no k n t (by simp [mayB, hm]) w
end Go.Proofs.YtoekdeoekcmpgaaGreatDoor
