/- The document's Apply. -/
import Derived.Test.YtoekdeoekcmpgaaGreatDoorKW
namespace Go.Proofs.YtoekdeoekcmpgaaGreatDoor
open Go.ChangeShapes Go.WideShapes Go.ChangeAt Go.RowKit
set_option linter.unusedVariables false

theorem trimR_snoc (l : List UInt8) (c : UInt8) : Lib.trimRightS (l ++ [c]) blankL = if blankB c = true then Lib.trimRightS l blankL else l ++ [c] := by
  unfold Lib.trimRightS
  rw [List.reverse_append, List.reverse_singleton, List.singleton_append, List.dropWhile_cons]
  by_cases h : blankB c = true
  · rw [if_pos h, if_pos (show blankL.contains c = true from h)]
  · rw [if_neg h, if_neg (show ¬ blankL.contains c = true from h)]; simp
theorem snoc_of (y : ByteArray) (h : 0 < y.size) : y.data.toList = (y.extract 0 (y.size - 1)).data.toList ++ [y[y.size - 1]'(by omega)] := by
  have hl : y.data.toList.length = y.size := by simp
  have e : (y.extract 0 (y.size - 1)).data.toList = y.data.toList.take (y.size - 1) := by rw [Lib.extract_eq]; show List.take _ _ = _; simp
  rw [e]
  have h2 : y.data.toList.take (y.size - 1 + 1) = y.data.toList.take (y.size - 1) ++ y.data.toList[y.size - 1]?.toList := List.take_add_one
  have h3 : y.data.toList[y.size - 1]? = some (y[y.size - 1]'(by omega)) := by
    rw [Array.getElem?_toList]
    exact Array.getElem?_eq_getElem (by show y.size - 1 < y.size; omega)
  rw [show y.size - 1 + 1 = y.size by omega, List.take_of_length_le (by omega), h3] at h2
  exact h2

set_option maxHeartbeats 1000000 in
set_option maxRecDepth 10000 in
theorem rapply_bad (f k n : Int) (t : ByteArray) (hm : mayB k n t = false) (w : World) (hE : Env w) : Calls Tryz.prog 26 #[.int .i64 f, val k n t] w fun e w' => e = .returned (val k n t) ∧ Below w.heap.size w w' := by
  have HW : Hid (∀ V, _ → _) := pr_later w k n t
  have HM : Hid (∀ V, Calls Tryz.prog 36 #[.agg #[.int .i64 k, .int .i64 n, .string t]] V fun e w' => e = .returned (.bool false) ∧ Below V.heap.size V w') := fun V => by have := rmay_walk k n t V; rw [hm] at this; exact this
  clear hm hE
  go_enter Tryz.func26, Tryz.ntmps26
  go_wp2_with (first
    | (go_at_call 36; with_reducible refine Calls.mono (HM.out _) ?_; rintro e w1 ⟨rfl, hb1⟩; have HX1 := hide hb1; obtain ⟨⟨p0, p1, p2⟩, q0, q1, q2, ⟨d0, d1, d2, f0, f1, f2⟩, HK1, HB1⟩ := HW.out _ HX1.out; clear hb1))
  exact ret_valg Tryz.results26 rfl HK1.out ⟨rfl, below_set3g HB1.out (Nat.le_succ _) _ _ _⟩

set_option maxHeartbeats 1000000 in
set_option maxRecDepth 10000 in
theorem rapply_show (n : Int) (h0 : -9223372036854775808 ≤ n) (h1 : n ≤ 9223372036854775807) (w : World) (hE : Env w) : Calls Tryz.prog 26 #[.int .i64 2, val 1 n ⟨#[]⟩] w fun e w' => e = .returned (textV ⟨(Lib.itoa n).toArray⟩) ∧ Below w.heap.size w w' := by
  have HW : Hid (∀ V, _ → _) := pr_later w 1 n ⟨#[]⟩
  have HM : Hid (∀ V, Calls Tryz.prog 36 #[.agg #[.int .i64 1, .int .i64 n, .string ⟨#[]⟩]] V fun e w' => e = .returned (.bool true) ∧ Below V.heap.size V w') := fun V => rmay_walk 1 n ⟨#[]⟩ V
  obtain ⟨c1, c2, c3, hc⟩ := textV_val ⟨(Lib.itoa n).toArray⟩
  have HE : Hid (∀ V, Below w.heap.size w V → Env V) := fun V h => hE.below h
  have HS : Hid (∀ V, Env V → Calls Tryz.prog 15 #[.agg #[.int .i64 1, .int .i64 n, .string ⟨#[]⟩]] V fun e w' => e = .returned (val c1 c2 c3) ∧ Below V.heap.size V w') := fun V hV => by rw [← hc]; exact rshow_int n h0 h1 V hV
  rw [hc]
  clear hc hE
  go_enter Tryz.func26, Tryz.ntmps26
  go_wp2_with (first
    | (go_at_call 36; with_reducible refine Calls.mono (HM.out _) ?_; rintro e w1 ⟨rfl, hb1⟩; have HX1 := hide hb1; obtain ⟨⟨p0, p1, p2⟩, q0, q1, q2, ⟨d0, d1, d2, f0, f1, f2⟩, HK1, HB1⟩ := HW.out _ HX1.out; clear hb1)
    | (go_at_call 15; with_reducible refine Calls.mono (HS.out _ (HE.out _ HB1.out)) ?_; rintro e w3 ⟨rfl, hb3⟩; have HX3 := hide (below_trans HX1.out hb3); obtain ⟨⟨p0, p1, p2⟩, q0, q1, q2, ⟨d0, d1, d2, f0, f1, f2⟩, HK3, HB3⟩ := HW.out _ HX3.out; clear hb3))
  exact ret_valg Tryz.results26 rfl HK3.out ⟨rfl, below_set3g HB3.out (Nat.le_succ _) _ _ _⟩

set_option maxHeartbeats 1000000 in
set_option maxRecDepth 10000 in
theorem rapply_e1 (k n : Int) (t : ByteArray) (hm : mayB k n t = true) (hk : k ≠ 2) (w : World) (hE : Env w) : Calls Tryz.prog 26 #[.int .i64 1, val k n t] w fun e w' => e = .returned (val k n t) ∧ Below w.heap.size w w' := by
  have HW : Hid (∀ V, _ → _) := pr_later w k n t
  have HM : Hid (∀ V, Calls Tryz.prog 36 #[.agg #[.int .i64 k, .int .i64 n, .string t]] V fun e w' => e = .returned (.bool true) ∧ Below V.heap.size V w') := fun V => by have := rmay_walk k n t V; rw [hm] at this; exact this
  have e2 : (k != 2) = true := by simp [bne, hk]
  clear hm hE hk
  go_enter Tryz.func26, Tryz.ntmps26
  go_wp2_with (first
    | (go_at_call 36; with_reducible refine Calls.mono (HM.out _) ?_; rintro e w1 ⟨rfl, hb1⟩; have HX1 := hide hb1; obtain ⟨⟨p0, p1, p2⟩, q0, q1, q2, ⟨d0, d1, d2, f0, f1, f2⟩, HK1, HB1⟩ := HW.out _ HX1.out; clear hb1))
  exact ret_valg Tryz.results26 rfl HK1.out ⟨rfl, below_set3g HB1.out (Nat.le_succ _) _ _ _⟩

set_option maxHeartbeats 1000000 in
set_option maxRecDepth 10000 in
theorem rapply_e2 (k n : Int) (t : ByteArray) (hm : mayB k n t = true) (hk : k ≠ 1) (w : World) (hE : Env w) : Calls Tryz.prog 26 #[.int .i64 2, val k n t] w fun e w' => e = .returned (val k n t) ∧ Below w.heap.size w w' := by
  have HW : Hid (∀ V, _ → _) := pr_later w k n t
  have HM : Hid (∀ V, Calls Tryz.prog 36 #[.agg #[.int .i64 k, .int .i64 n, .string t]] V fun e w' => e = .returned (.bool true) ∧ Below V.heap.size V w') := fun V => by have := rmay_walk k n t V; rw [hm] at this; exact this
  have e2 : (k == 1) = false := by simpa using hk
  clear hm hE hk
  go_enter Tryz.func26, Tryz.ntmps26
  go_wp2_with (first
    | (go_at_call 36; with_reducible refine Calls.mono (HM.out _) ?_; rintro e w1 ⟨rfl, hb1⟩; have HX1 := hide hb1; obtain ⟨⟨p0, p1, p2⟩, q0, q1, q2, ⟨d0, d1, d2, f0, f1, f2⟩, HK1, HB1⟩ := HW.out _ HX1.out; clear hb1))
  exact ret_valg Tryz.results26 rfl HK1.out ⟨rfl, below_set3g HB1.out (Nat.le_succ _) _ _ _⟩

set_option maxHeartbeats 1000000 in
set_option maxRecDepth 10000 in
theorem rapply_e3 (f k n : Int) (t : ByteArray) (hm : mayB k n t = true) (h1 : f ≠ 1) (h2 : f ≠ 2) (w : World) (hE : Env w) : Calls Tryz.prog 26 #[.int .i64 f, val k n t] w fun e w' => e = .returned (val k n t) ∧ Below w.heap.size w w' := by
  have HW : Hid (∀ V, _ → _) := pr_later w k n t
  have HM : Hid (∀ V, Calls Tryz.prog 36 #[.agg #[.int .i64 k, .int .i64 n, .string t]] V fun e w' => e = .returned (.bool true) ∧ Below V.heap.size V w') := fun V => by have := rmay_walk k n t V; rw [hm] at this; exact this
  have e1 : (f != 1) = true := by simp [bne, h1]
  have e2 : (f == 2) = false := by simpa using h2
  clear hm hE h1 h2
  go_enter Tryz.func26, Tryz.ntmps26
  go_wp2_with (first
    | (go_at_call 36; with_reducible refine Calls.mono (HM.out _) ?_; rintro e w1 ⟨rfl, hb1⟩; have HX1 := hide hb1; obtain ⟨⟨p0, p1, p2⟩, q0, q1, q2, ⟨d0, d1, d2, f0, f1, f2⟩, HK1, HB1⟩ := HW.out _ HX1.out; clear hb1))
  exact ret_valg Tryz.results26 rfl HK1.out ⟨rfl, below_set3g HB1.out (Nat.le_succ _) _ _ _⟩

set_option maxHeartbeats 4000000 in
set_option maxRecDepth 10000 in
theorem rapply_text (t : ByteArray) (ht : t.size ≤ 400) (w : World) (hE : Env w) : Calls Tryz.prog 26 #[.int .i64 1, val 2 0 t] w fun e w' => e = .returned (appV 1 2 0 t) ∧ Below w.heap.size w w' := by
  have hmb : mayB 2 0 t = true := by rw [may2]; simpa using ht
  obtain ⟨r1, r2, r3, hr⟩ := appV_val 1 2 0 t
  have HRn : Hid (textNum t.data.toList = none → val r1 r2 r3 = val 2 0 t) := fun h => by rw [← hr]; unfold appV; rw [if_pos hmb, if_pos ⟨rfl, rfl⟩, h]
  have HRs : Hid (∀ m, textNum t.data.toList = some m → val r1 r2 r3 = val 1 m ⟨#[]⟩) := fun m h => by rw [← hr]; unfold appV; rw [if_pos hmb, if_pos ⟨rfl, rfl⟩, h]
  rw [hr]
  have HM : Hid (∀ V, Calls Tryz.prog 36 #[.agg #[.int .i64 2, .int .i64 0, .string t]] V fun e w' => e = .returned (.bool true) ∧ Below V.heap.size V w') := fun V => by have := rmay_walk 2 0 t V; rw [hmb] at this; exact this
  have HW : Hid (∀ V, _ → _) := pr_later w 2 0 t
  clear hr hmb hE
  go_enter Tryz.func26, Tryz.ntmps26
  go_wp2_with (first
    | (go_at_call 36; with_reducible refine Calls.mono (HM.out _) ?_; rintro e w1 ⟨rfl, hb1⟩; have HX1 := hide hb1; obtain ⟨⟨p0, p1, p2⟩, q0, q1, q2, ⟨d0, d1, d2, f0, f1, f2⟩, HK1, HB1⟩ := HW.out _ HX1.out; clear hb1))
  go_loopw [5] (fun sv wr => ∃ x : ByteArray, sv = .string x ∧ x.size ≤ 400 ∧ Lib.trimLeftS x.data.toList blankL = Lib.trimLeftS t.data.toList blankL ∧ w1 = wr) (fun sv _ => strSz sv)
  case atStart => exact ⟨t, rfl, ht, rfl, rfl⟩
  case round =>
    obtain ⟨x, rfl, hx4, hst, hwr⟩ := hrel
    subst hwr
    have hxl : x.data.toList.length = x.size := by simp
    by_cases hx0 : x.data.toList = []
    · have l0 : ¬ (0 : Int) < (x.size : Int) := by have := hxl; rw [hx0] at this; simp at this; omega
      have hx' : x.data.toList = Lib.trimLeftS t.data.toList blankL := by rw [← hst, hx0]; rfl
      have HXT : Hid (x.data.toList = Lib.trimLeftS t.data.toList blankL) := hx'
      clear hx' hst hx0
      go_wp2
      go_loopw [5] (fun sv wr => ∃ y : ByteArray, sv = .string y ∧ y.size ≤ 400 ∧ Lib.trimRightS y.data.toList blankL = Lib.trimRightS (Lib.trimLeftS t.data.toList blankL) blankL ∧ wr = w1) (fun sv _ => strSz sv)
      case atStart => exact ⟨x, rfl, hx4, by rw [HXT.out], rfl⟩
      case round =>
        clear HXT
        obtain ⟨y, rfl, hy4, hyt, rfl⟩ := hrel
        have hyl : y.data.toList.length = y.size := by simp
        have hysz : (y.size : Int) ≤ 400 := by omega
        by_cases hy0 : y.size = 0
        · have hye : y.data.toList = [] := List.length_eq_zero_iff.1 (hyl.trans hy0)
          have hO : textNum t.data.toList = none := by
            unfold textNum
            rw [trim_comm, ← hyt, hye]
            exact int_not (fun h => h.1 rfl)
          have hR := HRn.out hO
          have HR : Hid (val r1 r2 r3 = val 2 0 t) := hR
          have l0 : ¬ (0 : Int) < (y.size : Int) := by omega
          have l1 : ((y.size : Int) == 0) = true := by rw [hy0]; rfl
          clear hR hO hye hyt
          go_wp2
          exact ret_valg Tryz.results26 rfl HK1.out ⟨by rw [HR.out], below_set3g HB1.out (Nat.le_succ _) _ _ _⟩
        · have hpos : 0 < y.size := by omega
          have hyne : y.data.toList ≠ [] := fun e => hy0 (by rw [← hyl, e]; rfl)
          obtain ⟨c, hc⟩ : ∃ c : UInt8, y[y.size - 1]'(by omega) = c := ⟨_, rfl⟩
          have hsn := snoc_of y hpos
          rw [hc] at hsn
          have hbz : ∀ (h : y.size - 1 < y.size), ((y[y.size - 1]'h).toNat : Int) = (c.toNat : Int) := fun h => by rw [hc]
          have l0 : (0 : Int) < (y.size : Int) := by omega
          have l1 : ((y.size : Int) == 0) = false := beq_eq_false_iff_ne.2 (by omega)
          have m1 : ((y.size : Int) - 1).toNat = y.size - 1 := by omega
          have m2 : (0 : Int) ≤ (y.size : Int) - 1 := by omega
          have m3 : (y.size : Int) - 1 < (y.size : Int) := by omega
          have m5 : (y.size : Int) - 1 ≤ (y.size : Int) := by omega
          have hw1 : IntKind.i64.wrap ((y.size : Int) - 1) = (y.size : Int) - 1 := by rw [IntKind.wrap_i64]; omega
          by_cases hb : blankB c = true
          · have HF : Hid (∀ V, Calls Tryz.prog 38 #[.int .u8 (c.toNat : Int)] V fun e w' => e = .returned (.bool true) ∧ V = w') := fun V => by have := rblank_walk c V; rw [hb] at this; exact this
            have HR : Hid ((y.extract 0 (y.size - 1)).size ≤ 400 ∧ Lib.trimRightS (y.extract 0 (y.size - 1)).data.toList blankL = Lib.trimRightS (Lib.trimLeftS t.data.toList blankL) blankL ∧ (y.extract 0 (y.size - 1)).size < y.size) := by
              have e2 : (y.extract 0 (y.size - 1)).size = y.size - 1 := by rw [ByteArray.size_extract]; omega
              refine ⟨by omega, ?_, by omega⟩
              rw [← hyt]
              conv => rhs; rw [hsn, trimR_snoc, if_pos hb]
            clear hb hyt hc hsn hyne
            go_wp2_with (first
              | (go_at_call 38; with_reducible refine Calls.mono (HF.out _) ?_; rintro e w9 ⟨rfl, rfl⟩))
            go_roundw
            case rel => exact ⟨_, rfl, HR.out.1, HR.out.2.1, by first | rfl | trivial⟩
            case measure => exact HR.out.2.2
          · have hb' : blankB c = false := by simpa using hb
            have HF : Hid (∀ V, Calls Tryz.prog 38 #[.int .u8 (c.toNat : Int)] V fun e w' => e = .returned (.bool false) ∧ V = w') := fun V => by have := rblank_walk c V; rw [hb'] at this; exact this
            have hyt2 : y.data.toList = Lib.trimS t.data.toList blankL := by
              rw [trim_comm, ← hyt]
              conv => rhs; rw [hsn, trimR_snoc, if_neg hb]
              exact hsn
            have HYT : Hid (y.data.toList = Lib.trimS t.data.toList blankL) := hyt2
            clear hb hb' hyt hyt2 hc hsn
            obtain ⟨m, hm⟩ : ∃ m, leadN y.data.toList = m := ⟨_, rfl⟩
            have HL : Hid (∀ V, Calls Tryz.prog 39 #[.string y] V fun e w' => e = .returned (.int .i64 (m : Int)) ∧ V = w') := fun V => by have := rlead_walk y (by omega) V; rw [hm] at this; exact this
            by_cases hw : m = y.size
            · have hwh : whole y.data.toList := ⟨hyne, by rw [hm, hw, hyl]⟩
              have ho : textNum t.data.toList = num3 (sgn y.data.toList) (digs y.data.toList) := by unfold textNum; rw [← HYT.out]; exact int_whole hwh
              obtain ⟨hd, hform⟩ := whole_form hwh
              have e1 : ((m : Int) != (y.size : Int)) = false := by rw [hw]; simp
              cases hO : textNum t.data.toList with
              | none =>
                have hR := HRn.out hO
                have HR : Hid (val r1 r2 r3 = val 2 0 t) := hR
                have HN : Hid (∀ V, Calls Tryz.prog 40 #[.string y] V fun e w' => e = .returned (.agg #[.int .i64 0, .int .i64 0, .string ⟨#[]⟩]) ∧ Below V.heap.size V w') := fun V => by
                  have := rnum3_walk y (by omega) _ _ (sgn_cases _) hform (digs_dig _) hd V
                  rw [← ho, hO] at this; exact this
                clear hR hwh ho hd hform hm hw hO hyne
                go_wp2_with (first
                | (go_at_call 38; with_reducible refine Calls.mono (HF.out _) ?_; rintro e w9 ⟨rfl, rfl⟩)
                | (go_at_call 39; with_reducible refine Calls.mono (HL.out _) ?_; rintro e w9 ⟨rfl, rfl⟩)
                | (go_at_call 40; with_reducible refine Calls.mono (HN.out _) ?_; rintro e w3 ⟨rfl, hb3⟩; have HX3 := hide (below_trans (below_trans HX1.out hb3) (new_below w3 (vcells 0 0 ⟨#[]⟩) rfl)); obtain ⟨⟨p0, p1, p2⟩, q0, q1, q2, ⟨d0, d1, d2, f0, f1, f2⟩, HK3, HB3⟩ := HW.out _ HX3.out; clear hb3))
                exact ret_valg Tryz.results26 rfl HK3.out ⟨by rw [HR.out], below_set3g HB3.out (Nat.le_succ _) _ _ _⟩
              | some q =>
                have hR := HRs.out q hO
                have HR : Hid (val r1 r2 r3 = val 1 q ⟨#[]⟩) := hR
                have HN : Hid (∀ V, Calls Tryz.prog 40 #[.string y] V fun e w' => e = .returned (.agg #[.int .i64 1, .int .i64 q, .string ⟨#[]⟩]) ∧ Below V.heap.size V w') := fun V => by
                  have := rnum3_walk y (by omega) _ _ (sgn_cases _) hform (digs_dig _) hd V
                  rw [← ho, hO] at this; exact this
                clear hR hwh ho hd hform hm hw hO hyne
                go_wp2_with (first
                | (go_at_call 38; with_reducible refine Calls.mono (HF.out _) ?_; rintro e w9 ⟨rfl, rfl⟩)
                | (go_at_call 39; with_reducible refine Calls.mono (HL.out _) ?_; rintro e w9 ⟨rfl, rfl⟩)
                | (go_at_call 40; with_reducible refine Calls.mono (HN.out _) ?_; rintro e w3 ⟨rfl, hb3⟩; have HX3 := hide (below_trans (below_trans HX1.out hb3) (new_below w3 (vcells 1 q ⟨#[]⟩) rfl)); obtain ⟨⟨p0, p1, p2⟩, q0, q1, q2, ⟨d0, d1, d2, f0, f1, f2⟩, HK3, HB3⟩ := HW.out _ HX3.out; clear hb3))
                exact ret_valg Tryz.results26 rfl HK3.out ⟨by rw [HR.out], below_set3g HB3.out (Nat.le_succ _) _ _ _⟩
            · have hwh : ¬ whole y.data.toList := fun h => hw (by rw [← hm, ← hyl]; exact h.2)
              have hO : textNum t.data.toList = none := by unfold textNum; rw [← HYT.out]; exact int_not hwh
              have hR := HRn.out hO
              have HR : Hid (val r1 r2 r3 = val 2 0 t) := hR
              have e1 : ((m : Int) != (y.size : Int)) = true := bne_iff_ne.2 (by omega)
              clear hR hwh hm hw hO hyne
              go_wp2_with (first
                | (go_at_call 38; with_reducible refine Calls.mono (HF.out _) ?_; rintro e w9 ⟨rfl, rfl⟩)
                | (go_at_call 39; with_reducible refine Calls.mono (HL.out _) ?_; rintro e w9 ⟨rfl, rfl⟩))
              exact ret_valg Tryz.results26 rfl HK1.out ⟨by rw [HR.out], below_set3g HB1.out (Nat.le_succ _) _ _ _⟩
    · obtain ⟨c, r, h0, hcl, hxc, hrl⟩ := cons_of x hx0
      have l0 : (0 : Int) < (x.size : Int) := by omega
      have l1 : (1 : Int) ≤ (x.size : Int) := by omega
      have hbx : ∀ (h : 0 < x.size), ((x[0]'h).toNat : Int) = (c.toNat : Int) := fun h => by rw [hxc]
      by_cases hb : blankB c = true
      · have HF : Hid (∀ V, Calls Tryz.prog 38 #[.int .u8 (c.toNat : Int)] V fun e w' => e = .returned (.bool true) ∧ V = w') := fun V => by have := rblank_walk c V; rw [hb] at this; exact this
        have HR : Hid ((x.extract 1 x.size).size ≤ 400 ∧ Lib.trimLeftS (x.extract 1 x.size).data.toList blankL = Lib.trimLeftS t.data.toList blankL ∧ (x.extract 1 x.size).size < x.size) := by
          have e1 := ext_list x 1
          rw [hcl] at e1
          have e2 : (x.extract 1 x.size).size = x.size - 1 := by rw [ByteArray.size_extract]; omega
          refine ⟨by omega, ?_, by omega⟩
          rw [e1, ← hst, hcl, trimL_cons', if_pos hb]; rfl
        clear hb hst hx0 hcl hxc hrl hxl
        go_wp2_with (first
          | (go_at_call 38; with_reducible refine Calls.mono (HF.out _) ?_; rintro e w9 ⟨rfl, rfl⟩))
        go_roundw
        case rel => exact ⟨_, rfl, HR.out.1, HR.out.2.1, by first | rfl | trivial⟩
        case measure => exact HR.out.2.2
      · have hb' : blankB c = false := by simpa using hb
        have HF : Hid (∀ V, Calls Tryz.prog 38 #[.int .u8 (c.toNat : Int)] V fun e w' => e = .returned (.bool false) ∧ V = w') := fun V => by have := rblank_walk c V; rw [hb'] at this; exact this
        have hx' : x.data.toList = Lib.trimLeftS t.data.toList blankL := by rw [← hst, hcl, trimL_cons', if_neg hb]
        have HXT : Hid (x.data.toList = Lib.trimLeftS t.data.toList blankL) := hx'
        clear hx' hst hx0 hcl hxc hrl hb hb'
        go_wp2_with (first
          | (go_at_call 38; with_reducible refine Calls.mono (HF.out _) ?_; rintro e w9 ⟨rfl, rfl⟩))
        clear hbx l0 l1
        go_loopw [5] (fun sv wr => ∃ y : ByteArray, sv = .string y ∧ y.size ≤ 400 ∧ Lib.trimRightS y.data.toList blankL = Lib.trimRightS (Lib.trimLeftS t.data.toList blankL) blankL ∧ wr = w1) (fun sv _ => strSz sv)
        case atStart => exact ⟨x, rfl, hx4, by rw [HXT.out], rfl⟩
        case round =>
          clear HXT
          obtain ⟨y, rfl, hy4, hyt, rfl⟩ := hrel
          have hyl : y.data.toList.length = y.size := by simp
          have hysz : (y.size : Int) ≤ 400 := by omega
          by_cases hy0 : y.size = 0
          · have hye : y.data.toList = [] := List.length_eq_zero_iff.1 (hyl.trans hy0)
            have hO : textNum t.data.toList = none := by
              unfold textNum
              rw [trim_comm, ← hyt, hye]
              exact int_not (fun h => h.1 rfl)
            have hR := HRn.out hO
            have HR : Hid (val r1 r2 r3 = val 2 0 t) := hR
            have l0 : ¬ (0 : Int) < (y.size : Int) := by omega
            have l1 : ((y.size : Int) == 0) = true := by rw [hy0]; rfl
            clear hR hO hye hyt
            go_wp2
            exact ret_valg Tryz.results26 rfl HK1.out ⟨by rw [HR.out], below_set3g HB1.out (Nat.le_succ _) _ _ _⟩
          · have hpos : 0 < y.size := by omega
            have hyne : y.data.toList ≠ [] := fun e => hy0 (by rw [← hyl, e]; rfl)
            obtain ⟨c, hc⟩ : ∃ c : UInt8, y[y.size - 1]'(by omega) = c := ⟨_, rfl⟩
            have hsn := snoc_of y hpos
            rw [hc] at hsn
            have hbz : ∀ (h : y.size - 1 < y.size), ((y[y.size - 1]'h).toNat : Int) = (c.toNat : Int) := fun h => by rw [hc]
            have l0 : (0 : Int) < (y.size : Int) := by omega
            have l1 : ((y.size : Int) == 0) = false := beq_eq_false_iff_ne.2 (by omega)
            have m1 : ((y.size : Int) - 1).toNat = y.size - 1 := by omega
            have m2 : (0 : Int) ≤ (y.size : Int) - 1 := by omega
            have m3 : (y.size : Int) - 1 < (y.size : Int) := by omega
            have m5 : (y.size : Int) - 1 ≤ (y.size : Int) := by omega
            have hw1 : IntKind.i64.wrap ((y.size : Int) - 1) = (y.size : Int) - 1 := by rw [IntKind.wrap_i64]; omega
            by_cases hb : blankB c = true
            · have HF : Hid (∀ V, Calls Tryz.prog 38 #[.int .u8 (c.toNat : Int)] V fun e w' => e = .returned (.bool true) ∧ V = w') := fun V => by have := rblank_walk c V; rw [hb] at this; exact this
              have HR : Hid ((y.extract 0 (y.size - 1)).size ≤ 400 ∧ Lib.trimRightS (y.extract 0 (y.size - 1)).data.toList blankL = Lib.trimRightS (Lib.trimLeftS t.data.toList blankL) blankL ∧ (y.extract 0 (y.size - 1)).size < y.size) := by
                have e2 : (y.extract 0 (y.size - 1)).size = y.size - 1 := by rw [ByteArray.size_extract]; omega
                refine ⟨by omega, ?_, by omega⟩
                rw [← hyt]
                conv => rhs; rw [hsn, trimR_snoc, if_pos hb]
              clear hb hyt hc hsn hyne
              go_wp2_with (first
                | (go_at_call 38; with_reducible refine Calls.mono (HF.out _) ?_; rintro e w9 ⟨rfl, rfl⟩))
              go_roundw
              case rel => exact ⟨_, rfl, HR.out.1, HR.out.2.1, by first | rfl | trivial⟩
              case measure => exact HR.out.2.2
            · have hb' : blankB c = false := by simpa using hb
              have HF : Hid (∀ V, Calls Tryz.prog 38 #[.int .u8 (c.toNat : Int)] V fun e w' => e = .returned (.bool false) ∧ V = w') := fun V => by have := rblank_walk c V; rw [hb'] at this; exact this
              have hyt2 : y.data.toList = Lib.trimS t.data.toList blankL := by
                rw [trim_comm, ← hyt]
                conv => rhs; rw [hsn, trimR_snoc, if_neg hb]
                exact hsn
              have HYT : Hid (y.data.toList = Lib.trimS t.data.toList blankL) := hyt2
              clear hb hb' hyt hyt2 hc hsn
              obtain ⟨m, hm⟩ : ∃ m, leadN y.data.toList = m := ⟨_, rfl⟩
              have HL : Hid (∀ V, Calls Tryz.prog 39 #[.string y] V fun e w' => e = .returned (.int .i64 (m : Int)) ∧ V = w') := fun V => by have := rlead_walk y (by omega) V; rw [hm] at this; exact this
              by_cases hw : m = y.size
              · have hwh : whole y.data.toList := ⟨hyne, by rw [hm, hw, hyl]⟩
                have ho : textNum t.data.toList = num3 (sgn y.data.toList) (digs y.data.toList) := by unfold textNum; rw [← HYT.out]; exact int_whole hwh
                obtain ⟨hd, hform⟩ := whole_form hwh
                have e1 : ((m : Int) != (y.size : Int)) = false := by rw [hw]; simp
                cases hO : textNum t.data.toList with
                | none =>
                  have hR := HRn.out hO
                  have HR : Hid (val r1 r2 r3 = val 2 0 t) := hR
                  have HN : Hid (∀ V, Calls Tryz.prog 40 #[.string y] V fun e w' => e = .returned (.agg #[.int .i64 0, .int .i64 0, .string ⟨#[]⟩]) ∧ Below V.heap.size V w') := fun V => by
                    have := rnum3_walk y (by omega) _ _ (sgn_cases _) hform (digs_dig _) hd V
                    rw [← ho, hO] at this; exact this
                  clear hR hwh ho hd hform hm hw hO hyne
                  go_wp2_with (first
                  | (go_at_call 38; with_reducible refine Calls.mono (HF.out _) ?_; rintro e w9 ⟨rfl, rfl⟩)
                  | (go_at_call 39; with_reducible refine Calls.mono (HL.out _) ?_; rintro e w9 ⟨rfl, rfl⟩)
                  | (go_at_call 40; with_reducible refine Calls.mono (HN.out _) ?_; rintro e w3 ⟨rfl, hb3⟩; have HX3 := hide (below_trans (below_trans HX1.out hb3) (new_below w3 (vcells 0 0 ⟨#[]⟩) rfl)); obtain ⟨⟨p0, p1, p2⟩, q0, q1, q2, ⟨d0, d1, d2, f0, f1, f2⟩, HK3, HB3⟩ := HW.out _ HX3.out; clear hb3))
                  exact ret_valg Tryz.results26 rfl HK3.out ⟨by rw [HR.out], below_set3g HB3.out (Nat.le_succ _) _ _ _⟩
                | some q =>
                  have hR := HRs.out q hO
                  have HR : Hid (val r1 r2 r3 = val 1 q ⟨#[]⟩) := hR
                  have HN : Hid (∀ V, Calls Tryz.prog 40 #[.string y] V fun e w' => e = .returned (.agg #[.int .i64 1, .int .i64 q, .string ⟨#[]⟩]) ∧ Below V.heap.size V w') := fun V => by
                    have := rnum3_walk y (by omega) _ _ (sgn_cases _) hform (digs_dig _) hd V
                    rw [← ho, hO] at this; exact this
                  clear hR hwh ho hd hform hm hw hO hyne
                  go_wp2_with (first
                  | (go_at_call 38; with_reducible refine Calls.mono (HF.out _) ?_; rintro e w9 ⟨rfl, rfl⟩)
                  | (go_at_call 39; with_reducible refine Calls.mono (HL.out _) ?_; rintro e w9 ⟨rfl, rfl⟩)
                  | (go_at_call 40; with_reducible refine Calls.mono (HN.out _) ?_; rintro e w3 ⟨rfl, hb3⟩; have HX3 := hide (below_trans (below_trans HX1.out hb3) (new_below w3 (vcells 1 q ⟨#[]⟩) rfl)); obtain ⟨⟨p0, p1, p2⟩, q0, q1, q2, ⟨d0, d1, d2, f0, f1, f2⟩, HK3, HB3⟩ := HW.out _ HX3.out; clear hb3))
                  exact ret_valg Tryz.results26 rfl HK3.out ⟨by rw [HR.out], below_set3g HB3.out (Nat.le_succ _) _ _ _⟩
              · have hwh : ¬ whole y.data.toList := fun h => hw (by rw [← hm, ← hyl]; exact h.2)
                have hO : textNum t.data.toList = none := by unfold textNum; rw [← HYT.out]; exact int_not hwh
                have hR := HRn.out hO
                have HR : Hid (val r1 r2 r3 = val 2 0 t) := hR
                have e1 : ((m : Int) != (y.size : Int)) = true := bne_iff_ne.2 (by omega)
                clear hR hwh hm hw hO hyne
                go_wp2_with (first
                  | (go_at_call 38; with_reducible refine Calls.mono (HF.out _) ?_; rintro e w9 ⟨rfl, rfl⟩)
                  | (go_at_call 39; with_reducible refine Calls.mono (HL.out _) ?_; rintro e w9 ⟨rfl, rfl⟩))
                exact ret_valg Tryz.results26 rfl HK1.out ⟨by rw [HR.out], below_set3g HB1.out (Nat.le_succ _) _ _ _⟩
theorem rapply_walk (f k n : Int) (t : ByteArray) (h0 : -9223372036854775808 ≤ n) (h1 : n ≤ 9223372036854775807) (w : World) (hE : Env w) : Calls Tryz.prog 26 #[.int .i64 f, val k n t] w fun e w' => e = .returned (appV f k n t) ∧ Below w.heap.size w w' := by
  by_cases hm : mayB k n t = true
  · obtain ⟨g2, g1⟩ := may_forms hm
    by_cases c1 : f = 1 ∧ k = 2
    · obtain ⟨rfl, rfl⟩ := c1
      obtain ⟨rfl, ht⟩ := g2 rfl
      exact rapply_text t ht w hE
    · unfold appV
      rw [if_pos hm, if_neg c1]
      by_cases c2 : f = 2 ∧ k = 1
      · rw [if_pos c2]
        obtain ⟨rfl, rfl⟩ := c2
        obtain rfl := g1 rfl
        exact rapply_show n h0 h1 w hE
      · rw [if_neg c2]
        by_cases f1 : f = 1
        · subst f1; exact rapply_e1 k n t hm (fun e => c1 ⟨rfl, e⟩) w hE
        by_cases f2 : f = 2
        · subst f2; exact rapply_e2 k n t hm (fun e => c2 ⟨rfl, e⟩) w hE
        exact rapply_e3 f k n t hm f1 f2 w hE
  · unfold appV
    rw [if_neg hm]
    exact rapply_bad f k n t (by simpa using hm) w hE
end Go.Proofs.YtoekdeoekcmpgaaGreatDoor
