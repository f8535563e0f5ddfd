/- The document's Number. -/
import Derived.Test.YtoekdeoekcmpgaaGreatDoorKG
namespace Go.Proofs.YtoekdeoekcmpgaaGreatDoor
open Go.ChangeShapes Go.WideShapes Go.ChangeAt Go.RowKit
set_option linter.unusedVariables false

def strSz : Value → Nat
  | .string s => s.size
  | _ => 0

theorem strip_stop1 (c : UInt8) : strip [c] = [c] := rfl
theorem strip_stop2 (c d : UInt8) (r : List UInt8) (h : c ≠ 48) : strip (c :: d :: r) = c :: d :: r := by rw [strip, if_neg h]
theorem strip_step (c d : UInt8) (r : List UInt8) (h : c = 48) : strip (c :: d :: r) = strip (d :: r) := by rw [strip, if_pos h]
theorem cons_of (x : ByteArray) (h : x.data.toList ≠ []) : ∃ (c : UInt8) (r : List UInt8) (h0 : 0 < x.size), x.data.toList = c :: r ∧ x[0]'h0 = c ∧ r.length + 1 = x.size := by
  have hl : x.data.toList.length = x.size := by simp
  have h0 : 0 < x.size := by
    rcases Nat.eq_zero_or_pos x.size with h' | h'
    · exact absurd (List.length_eq_zero_iff.1 (hl.trans h')) h
    · exact h'
  have := byte_at0 x h0
  refine ⟨x[0]'h0, x.data.toList.drop 1, h0, this, rfl, ?_⟩
  rw [List.length_drop, hl]; omega

set_option maxHeartbeats 1000000 in
set_option maxRecDepth 10000 in
theorem rnum3_plus (s : ByteArray) (hs : s.size ≤ 900) (ds : List UInt8) (hl : s.data.toList = 43 :: ds) (hd : ∀ c ∈ ds, isDig c) (hne : ds ≠ []) (w : World) : Calls Tryz.prog 40 #[.string s] w fun e w' => e = .returned (optV (num3 [43] ds)) ∧ Below w.heap.size w w' := by
  have hsl : s.data.toList.length = s.size := by simp
  have h1 : 1 ≤ s.size := by rw [hl] at hsl; simp at hsl; omega
  have p0 : (0 : Int) < (s.size : Int) := by omega
  have p1 : (1 : Int) ≤ (s.size : Int) := by omega
  have hb0 : ∀ (h : 0 < s.size), ((s[0]'h).toNat : Int) = 43 := fun h => by
    have := byte_at0 s h
    rw [hl] at this; rw [← (List.cons.inj this).1]; rfl
  have HF : Hid (∀ V, Calls Tryz.prog 68 #[.int .u8 43] V fun e w' => e = .returned (.bool false) ∧ V = w') := fun V => rdigit_walk 43 V
  have HS : Hid ((s.extract 1 s.size).size ≤ 900 ∧ (s.extract 1 s.size).data.toList ≠ [] ∧ strip (s.extract 1 s.size).data.toList = strip ds) := by
    have e1 := ext_list s 1
    rw [hl] at e1
    have e2 : (s.extract 1 s.size).size = s.size - 1 := by rw [ByteArray.size_extract]; omega
    exact ⟨by omega, by rw [e1]; exact hne, by rw [e1]; rfl⟩
  clear hl hsl hd hne
  have HW : Hid (∀ V, _ → _) := res_later w
  obtain ⟨o, ho⟩ : ∃ o, num3 [43] ds = o := ⟨_, rfl⟩
  rw [ho]
  have HO : Hid (num3 [43] ds = o) := ho
  clear ho
  go_enter Tryz.func40, Tryz.ntmps40
  go_wp2_with (first
    | (go_at_call 68; with_reducible refine Calls.mono (HF.out _) ?_; rintro e w1 ⟨rfl, rfl⟩))
  go_loopw [0] (fun sv wr => ∃ x : ByteArray, sv = .string x ∧ x.size ≤ 900 ∧ x.data.toList ≠ [] ∧ strip x.data.toList = strip ds ∧ wr = w.alloc nilcells) (fun sv _ => strSz sv)
  case atStart => exact ⟨_, rfl, HS.out.1, HS.out.2.1, HS.out.2.2, rfl⟩
  case round =>
    clear HS HF
    try clear hb0
    try clear p0
    try clear p1
    obtain ⟨x, rfl, hx9, hxne, hst, rfl⟩ := hrel
    obtain ⟨c, r, h0, hxl, hxc, hrl⟩ := cons_of x hxne
    have hxs : x.size ≤ 1000 := by omega
    have hbx : ∀ (h : 0 < x.size), ((x[0]'h).toNat : Int) = (c.toNat : Int) := fun h => by rw [hxc]
    have q0 : (0 : Int) < (x.size : Int) := by omega
    have q1 : (1 : Int) ≤ (x.size : Int) := by omega
    cases r with
    | nil =>
      have l1 : ¬ (1 : Int) < (x.size : Int) := by simp at hrl; omega
      have hx' : x.data.toList = strip ds := by rw [← hst, hxl]; rfl
      have HXS : Hid (x.data.toList = strip ds) := hx'
      clear hx'
      clear hst hxl hxc hxne hrl
      have HN : Hid (∀ V, Calls Tryz.prog 69 #[.string x] V fun e w' => e = .returned (numV o) ∧ Below V.heap.size V w') := fun V => by have := number_walk x hxs V; rw [HXS.out] at this; rw [← HO.out]; unfold num3; rw [if_neg (fun h => absurd h.1 (by decide))]; exact this
      cases o with
      | none =>
        dsimp only [numV] at HN
        go_wp2_with (first
          | (go_at_call 69; with_reducible refine Calls.mono (HN.out _) ?_; rintro e w1 ⟨rfl, hb1⟩; obtain ⟨d0, d1, d2, f0, f1, f2, a0, a1, a2, b0, b1, b2, HK1, HB1, HL1⟩ := HW.out _ hb1; have HX1 := hide hb1; clear hb1)
          | (go_at_call 37; with_reducible refine Calls.mono (rnull_walk _) ?_; rintro e w2 ⟨rfl, hb2⟩; obtain ⟨d0, d1, d2, f0, f1, f2, a0, a1, a2, b0, b1, b2, HK2, HB2, HL2⟩ := HW.out _ (below_trans HX1.out hb2); clear hb2))
        exact ret_val Tryz.results40 rfl HK2.out ⟨rfl, below_set3 HB2.out _ _ _⟩
      | some m =>
        dsimp only [numV] at HN
        go_wp2_with (first
          | (go_at_call 69; with_reducible refine Calls.mono (HN.out _) ?_; rintro e w1 ⟨rfl, hb1⟩; obtain ⟨d0, d1, d2, f0, f1, f2, a0, a1, a2, b0, b1, b2, HK1, HB1, HL1⟩ := HW.out _ hb1; have HX1 := hide hb1; clear hb1)
          | (go_at_call 31; with_reducible refine Calls.mono (rint_walk _ _) ?_; rintro e w2 ⟨rfl, hb2⟩; obtain ⟨d0, d1, d2, f0, f1, f2, a0, a1, a2, b0, b1, b2, HK2, HB2, HL2⟩ := HW.out _ (below_trans HX1.out hb2); clear hb2))
        exact ret_val Tryz.results40 rfl HK2.out ⟨rfl, below_set3 HB2.out _ _ _⟩

    | cons d r =>
      have l1 : (1 : Int) < (x.size : Int) := by simp at hrl; omega
      by_cases hc : c = 48
      · have e48 : ((c.toNat : Int) == 48) = true := by rw [hc]; rfl
        have HR : Hid ((x.extract 1 x.size).size ≤ 900 ∧ (x.extract 1 x.size).data.toList ≠ [] ∧ strip (x.extract 1 x.size).data.toList = strip ds ∧ (x.extract 1 x.size).size < x.size) := by
          have e1 := ext_list x 1
          rw [hxl] at e1
          have e2 : (x.extract 1 x.size).size = x.size - 1 := by rw [ByteArray.size_extract]; omega
          refine ⟨by omega, by rw [e1]; simp, ?_, by omega⟩
          rw [e1, ← hst, hxl, strip_step c d r hc]; rfl
        clear hst hxl hxc hxne hrl hc
        go_wp2
        go_roundw
        case rel => exact ⟨_, rfl, HR.out.1, HR.out.2.1, HR.out.2.2.1, by first | rfl | trivial⟩
        case measure => exact HR.out.2.2.2
      · have e48 : ((c.toNat : Int) == 48) = false := by
          have : c.toNat ≠ 48 := fun e => hc (UInt8.toNat_inj.1 e)
          simp; omega
        have hx' : x.data.toList = strip ds := by rw [← hst, hxl, strip_stop2 c d r hc]
        have HXS : Hid (x.data.toList = strip ds) := hx'
        clear hx'
        clear hst hxl hxc hxne hrl hc
        have HN : Hid (∀ V, Calls Tryz.prog 69 #[.string x] V fun e w' => e = .returned (numV o) ∧ Below V.heap.size V w') := fun V => by have := number_walk x hxs V; rw [HXS.out] at this; rw [← HO.out]; unfold num3; rw [if_neg (fun h => absurd h.1 (by decide))]; exact this
        cases o with
        | none =>
          dsimp only [numV] at HN
          go_wp2_with (first
            | (go_at_call 69; with_reducible refine Calls.mono (HN.out _) ?_; rintro e w1 ⟨rfl, hb1⟩; obtain ⟨d0, d1, d2, f0, f1, f2, a0, a1, a2, b0, b1, b2, HK1, HB1, HL1⟩ := HW.out _ hb1; have HX1 := hide hb1; clear hb1)
            | (go_at_call 37; with_reducible refine Calls.mono (rnull_walk _) ?_; rintro e w2 ⟨rfl, hb2⟩; obtain ⟨d0, d1, d2, f0, f1, f2, a0, a1, a2, b0, b1, b2, HK2, HB2, HL2⟩ := HW.out _ (below_trans HX1.out hb2); clear hb2))
          exact ret_val Tryz.results40 rfl HK2.out ⟨rfl, below_set3 HB2.out _ _ _⟩
        | some m =>
          dsimp only [numV] at HN
          go_wp2_with (first
            | (go_at_call 69; with_reducible refine Calls.mono (HN.out _) ?_; rintro e w1 ⟨rfl, hb1⟩; obtain ⟨d0, d1, d2, f0, f1, f2, a0, a1, a2, b0, b1, b2, HK1, HB1, HL1⟩ := HW.out _ hb1; have HX1 := hide hb1; clear hb1)
            | (go_at_call 31; with_reducible refine Calls.mono (rint_walk _ _) ?_; rintro e w2 ⟨rfl, hb2⟩; obtain ⟨d0, d1, d2, f0, f1, f2, a0, a1, a2, b0, b1, b2, HK2, HB2, HL2⟩ := HW.out _ (below_trans HX1.out hb2); clear hb2))
          exact ret_val Tryz.results40 rfl HK2.out ⟨rfl, below_set3 HB2.out _ _ _⟩


set_option maxHeartbeats 1000000 in
set_option maxRecDepth 10000 in
theorem rnum3_minus (s : ByteArray) (hs : s.size ≤ 900) (ds : List UInt8) (hl : s.data.toList = 45 :: ds) (hd : ∀ c ∈ ds, isDig c) (hne : ds ≠ []) (w : World) : Calls Tryz.prog 40 #[.string s] w fun e w' => e = .returned (optV (num3 [45] ds)) ∧ Below w.heap.size w w' := by
  have hsl : s.data.toList.length = s.size := by simp
  have h1 : 1 ≤ s.size := by rw [hl] at hsl; simp at hsl; omega
  have p0 : (0 : Int) < (s.size : Int) := by omega
  have p1 : (1 : Int) ≤ (s.size : Int) := by omega
  have hb0 : ∀ (h : 0 < s.size), ((s[0]'h).toNat : Int) = 45 := fun h => by
    have := byte_at0 s h
    rw [hl] at this; rw [← (List.cons.inj this).1]; rfl
  have HF : Hid (∀ V, Calls Tryz.prog 68 #[.int .u8 45] V fun e w' => e = .returned (.bool false) ∧ V = w') := fun V => rdigit_walk 45 V
  have HS : Hid ((s.extract 1 s.size).size ≤ 900 ∧ (s.extract 1 s.size).data.toList ≠ [] ∧ strip (s.extract 1 s.size).data.toList = strip ds) := by
    have e1 := ext_list s 1
    rw [hl] at e1
    have e2 : (s.extract 1 s.size).size = s.size - 1 := by rw [ByteArray.size_extract]; omega
    exact ⟨by omega, by rw [e1]; exact hne, by rw [e1]; rfl⟩
  clear hl hsl hd hne
  have HW : Hid (∀ V, _ → _) := res_later w
  obtain ⟨o, ho⟩ : ∃ o, num3 [45] ds = o := ⟨_, rfl⟩
  rw [ho]
  have HO : Hid (num3 [45] ds = o) := ho
  clear ho
  go_enter Tryz.func40, Tryz.ntmps40
  go_wp2_with (first
    | (go_at_call 68; with_reducible refine Calls.mono (HF.out _) ?_; rintro e w1 ⟨rfl, rfl⟩))
  go_loopw [0] (fun sv wr => ∃ x : ByteArray, sv = .string x ∧ x.size ≤ 900 ∧ x.data.toList ≠ [] ∧ strip x.data.toList = strip ds ∧ wr = w.alloc nilcells) (fun sv _ => strSz sv)
  case atStart => exact ⟨_, rfl, HS.out.1, HS.out.2.1, HS.out.2.2, rfl⟩
  case round =>
    clear HS HF
    try clear hb0
    try clear p0
    try clear p1
    obtain ⟨x, rfl, hx9, hxne, hst, rfl⟩ := hrel
    obtain ⟨c, r, h0, hxl, hxc, hrl⟩ := cons_of x hxne
    have hxs : x.size ≤ 1000 := by omega
    have hbx : ∀ (h : 0 < x.size), ((x[0]'h).toNat : Int) = (c.toNat : Int) := fun h => by rw [hxc]
    have q0 : (0 : Int) < (x.size : Int) := by omega
    have q1 : (1 : Int) ≤ (x.size : Int) := by omega
    cases r with
    | nil =>
      have l1 : ¬ (1 : Int) < (x.size : Int) := by simp at hrl; omega
      have hx' : x.data.toList = strip ds := by rw [← hst, hxl]; rfl
      have HXS : Hid (x.data.toList = strip ds) := hx'
      clear hx'
      clear hst hxl hxc hxne hrl
      by_cases hz : x.data.toList = [48]
      · have ez : (x.toList == [48]) = true := by rw [ByteArray.toList_eq, hz]; rfl
        have ez2 : (x.toList != [48]) = false := by simp only [bne, ez, Bool.not_true]
        have HN : Hid (∀ V, Calls Tryz.prog 69 #[.string x] V fun e w' => e = .returned (numV o) ∧ Below V.heap.size V w') := fun V => by have := number_walk x hxs V; rw [← HO.out]; unfold num3; rw [if_neg (fun h => h.2 (HXS.out.symm.trans hz)), ← HXS.out]; exact this
        clear hz
        cases o with
        | none =>
          dsimp only [numV] at HN
          go_wp2_with (first
            | (go_at_call 69; with_reducible refine Calls.mono (HN.out _) ?_; rintro e w1 ⟨rfl, hb1⟩; obtain ⟨d0, d1, d2, f0, f1, f2, a0, a1, a2, b0, b1, b2, HK1, HB1, HL1⟩ := HW.out _ hb1; have HX1 := hide hb1; clear hb1)
            | (go_at_call 37; with_reducible refine Calls.mono (rnull_walk _) ?_; rintro e w2 ⟨rfl, hb2⟩; obtain ⟨d0, d1, d2, f0, f1, f2, a0, a1, a2, b0, b1, b2, HK2, HB2, HL2⟩ := HW.out _ (below_trans HX1.out hb2); clear hb2))
          exact ret_val Tryz.results40 rfl HK2.out ⟨rfl, below_set3 HB2.out _ _ _⟩
        | some m =>
          dsimp only [numV] at HN
          go_wp2_with (first
            | (go_at_call 69; with_reducible refine Calls.mono (HN.out _) ?_; rintro e w1 ⟨rfl, hb1⟩; obtain ⟨d0, d1, d2, f0, f1, f2, a0, a1, a2, b0, b1, b2, HK1, HB1, HL1⟩ := HW.out _ hb1; have HX1 := hide hb1; clear hb1)
            | (go_at_call 31; with_reducible refine Calls.mono (rint_walk _ _) ?_; rintro e w2 ⟨rfl, hb2⟩; obtain ⟨d0, d1, d2, f0, f1, f2, a0, a1, a2, b0, b1, b2, HK2, HB2, HL2⟩ := HW.out _ (below_trans HX1.out hb2); clear hb2))
          exact ret_val Tryz.results40 rfl HK2.out ⟨rfl, below_set3 HB2.out _ _ _⟩
      · have ez : (x.toList == [48]) = false := by rw [ByteArray.toList_eq]; simpa using hz
        have ez2 : (x.toList != [48]) = true := by simp only [bne, ez, Bool.not_false]
        have HN : Hid (∀ V, Calls Tryz.prog 69 #[.string ((⟨#[45]⟩ : ByteArray) ++ x)] V fun e w' => e = .returned (numV o) ∧ Below V.heap.size V w') := fun V => by
          have := number_walk ((⟨#[45]⟩ : ByteArray) ++ x) (by rw [ByteArray.size_append]; show 1 + x.size ≤ 1000; omega) V
          have e1 : ((⟨#[45]⟩ : ByteArray) ++ x).data.toList = 45 :: strip ds := by rw [ByteArray.data_append, Array.toList_append, HXS.out]; rfl
          rw [e1] at this; rw [← HO.out]; unfold num3; rw [if_pos ⟨rfl, fun h => hz (HXS.out.trans h)⟩]; exact this
        clear hz
        cases o with
        | none =>
          dsimp only [numV] at HN
          go_wp2_with (first
            | (go_at_call 69; with_reducible refine Calls.mono (HN.out _) ?_; rintro e w1 ⟨rfl, hb1⟩; obtain ⟨d0, d1, d2, f0, f1, f2, a0, a1, a2, b0, b1, b2, HK1, HB1, HL1⟩ := HW.out _ hb1; have HX1 := hide hb1; clear hb1)
            | (go_at_call 37; with_reducible refine Calls.mono (rnull_walk _) ?_; rintro e w2 ⟨rfl, hb2⟩; obtain ⟨d0, d1, d2, f0, f1, f2, a0, a1, a2, b0, b1, b2, HK2, HB2, HL2⟩ := HW.out _ (below_trans HX1.out hb2); clear hb2))
          exact ret_val Tryz.results40 rfl HK2.out ⟨rfl, below_set3 HB2.out _ _ _⟩
        | some m =>
          dsimp only [numV] at HN
          go_wp2_with (first
            | (go_at_call 69; with_reducible refine Calls.mono (HN.out _) ?_; rintro e w1 ⟨rfl, hb1⟩; obtain ⟨d0, d1, d2, f0, f1, f2, a0, a1, a2, b0, b1, b2, HK1, HB1, HL1⟩ := HW.out _ hb1; have HX1 := hide hb1; clear hb1)
            | (go_at_call 31; with_reducible refine Calls.mono (rint_walk _ _) ?_; rintro e w2 ⟨rfl, hb2⟩; obtain ⟨d0, d1, d2, f0, f1, f2, a0, a1, a2, b0, b1, b2, HK2, HB2, HL2⟩ := HW.out _ (below_trans HX1.out hb2); clear hb2))
          exact ret_val Tryz.results40 rfl HK2.out ⟨rfl, below_set3 HB2.out _ _ _⟩

    | cons d r =>
      have l1 : (1 : Int) < (x.size : Int) := by simp at hrl; omega
      by_cases hc : c = 48
      · have e48 : ((c.toNat : Int) == 48) = true := by rw [hc]; rfl
        have HR : Hid ((x.extract 1 x.size).size ≤ 900 ∧ (x.extract 1 x.size).data.toList ≠ [] ∧ strip (x.extract 1 x.size).data.toList = strip ds ∧ (x.extract 1 x.size).size < x.size) := by
          have e1 := ext_list x 1
          rw [hxl] at e1
          have e2 : (x.extract 1 x.size).size = x.size - 1 := by rw [ByteArray.size_extract]; omega
          refine ⟨by omega, by rw [e1]; simp, ?_, by omega⟩
          rw [e1, ← hst, hxl, strip_step c d r hc]; rfl
        clear hst hxl hxc hxne hrl hc
        go_wp2
        go_roundw
        case rel => exact ⟨_, rfl, HR.out.1, HR.out.2.1, HR.out.2.2.1, by first | rfl | trivial⟩
        case measure => exact HR.out.2.2.2
      · have e48 : ((c.toNat : Int) == 48) = false := by
          have : c.toNat ≠ 48 := fun e => hc (UInt8.toNat_inj.1 e)
          simp; omega
        have hx' : x.data.toList = strip ds := by rw [← hst, hxl, strip_stop2 c d r hc]
        have HXS : Hid (x.data.toList = strip ds) := hx'
        clear hx'
        clear hst hxl hxc hxne hrl hc
        by_cases hz : x.data.toList = [48]
        · have ez : (x.toList == [48]) = true := by rw [ByteArray.toList_eq, hz]; rfl
          have ez2 : (x.toList != [48]) = false := by simp only [bne, ez, Bool.not_true]
          have HN : Hid (∀ V, Calls Tryz.prog 69 #[.string x] V fun e w' => e = .returned (numV o) ∧ Below V.heap.size V w') := fun V => by have := number_walk x hxs V; rw [← HO.out]; unfold num3; rw [if_neg (fun h => h.2 (HXS.out.symm.trans hz)), ← HXS.out]; exact this
          clear hz
          cases o with
          | none =>
            dsimp only [numV] at HN
            go_wp2_with (first
              | (go_at_call 69; with_reducible refine Calls.mono (HN.out _) ?_; rintro e w1 ⟨rfl, hb1⟩; obtain ⟨d0, d1, d2, f0, f1, f2, a0, a1, a2, b0, b1, b2, HK1, HB1, HL1⟩ := HW.out _ hb1; have HX1 := hide hb1; clear hb1)
              | (go_at_call 37; with_reducible refine Calls.mono (rnull_walk _) ?_; rintro e w2 ⟨rfl, hb2⟩; obtain ⟨d0, d1, d2, f0, f1, f2, a0, a1, a2, b0, b1, b2, HK2, HB2, HL2⟩ := HW.out _ (below_trans HX1.out hb2); clear hb2))
            exact ret_val Tryz.results40 rfl HK2.out ⟨rfl, below_set3 HB2.out _ _ _⟩
          | some m =>
            dsimp only [numV] at HN
            go_wp2_with (first
              | (go_at_call 69; with_reducible refine Calls.mono (HN.out _) ?_; rintro e w1 ⟨rfl, hb1⟩; obtain ⟨d0, d1, d2, f0, f1, f2, a0, a1, a2, b0, b1, b2, HK1, HB1, HL1⟩ := HW.out _ hb1; have HX1 := hide hb1; clear hb1)
              | (go_at_call 31; with_reducible refine Calls.mono (rint_walk _ _) ?_; rintro e w2 ⟨rfl, hb2⟩; obtain ⟨d0, d1, d2, f0, f1, f2, a0, a1, a2, b0, b1, b2, HK2, HB2, HL2⟩ := HW.out _ (below_trans HX1.out hb2); clear hb2))
            exact ret_val Tryz.results40 rfl HK2.out ⟨rfl, below_set3 HB2.out _ _ _⟩
        · have ez : (x.toList == [48]) = false := by rw [ByteArray.toList_eq]; simpa using hz
          have ez2 : (x.toList != [48]) = true := by simp only [bne, ez, Bool.not_false]
          have HN : Hid (∀ V, Calls Tryz.prog 69 #[.string ((⟨#[45]⟩ : ByteArray) ++ x)] V fun e w' => e = .returned (numV o) ∧ Below V.heap.size V w') := fun V => by
            have := number_walk ((⟨#[45]⟩ : ByteArray) ++ x) (by rw [ByteArray.size_append]; show 1 + x.size ≤ 1000; omega) V
            have e1 : ((⟨#[45]⟩ : ByteArray) ++ x).data.toList = 45 :: strip ds := by rw [ByteArray.data_append, Array.toList_append, HXS.out]; rfl
            rw [e1] at this; rw [← HO.out]; unfold num3; rw [if_pos ⟨rfl, fun h => hz (HXS.out.trans h)⟩]; exact this
          clear hz
          cases o with
          | none =>
            dsimp only [numV] at HN
            go_wp2_with (first
              | (go_at_call 69; with_reducible refine Calls.mono (HN.out _) ?_; rintro e w1 ⟨rfl, hb1⟩; obtain ⟨d0, d1, d2, f0, f1, f2, a0, a1, a2, b0, b1, b2, HK1, HB1, HL1⟩ := HW.out _ hb1; have HX1 := hide hb1; clear hb1)
              | (go_at_call 37; with_reducible refine Calls.mono (rnull_walk _) ?_; rintro e w2 ⟨rfl, hb2⟩; obtain ⟨d0, d1, d2, f0, f1, f2, a0, a1, a2, b0, b1, b2, HK2, HB2, HL2⟩ := HW.out _ (below_trans HX1.out hb2); clear hb2))
            exact ret_val Tryz.results40 rfl HK2.out ⟨rfl, below_set3 HB2.out _ _ _⟩
          | some m =>
            dsimp only [numV] at HN
            go_wp2_with (first
              | (go_at_call 69; with_reducible refine Calls.mono (HN.out _) ?_; rintro e w1 ⟨rfl, hb1⟩; obtain ⟨d0, d1, d2, f0, f1, f2, a0, a1, a2, b0, b1, b2, HK1, HB1, HL1⟩ := HW.out _ hb1; have HX1 := hide hb1; clear hb1)
              | (go_at_call 31; with_reducible refine Calls.mono (rint_walk _ _) ?_; rintro e w2 ⟨rfl, hb2⟩; obtain ⟨d0, d1, d2, f0, f1, f2, a0, a1, a2, b0, b1, b2, HK2, HB2, HL2⟩ := HW.out _ (below_trans HX1.out hb2); clear hb2))
            exact ret_val Tryz.results40 rfl HK2.out ⟨rfl, below_set3 HB2.out _ _ _⟩


set_option maxHeartbeats 1000000 in
set_option maxRecDepth 10000 in
theorem rnum3_plain (s : ByteArray) (hs : s.size ≤ 900) (ds : List UInt8) (hl : s.data.toList = ds) (hd : ∀ c ∈ ds, isDig c) (hne : ds ≠ []) (w : World) : Calls Tryz.prog 40 #[.string s] w fun e w' => e = .returned (optV (num3 [] ds)) ∧ Below w.heap.size w w' := by
  have hsl : s.data.toList.length = s.size := by simp
  obtain ⟨c, r, h1, hxl, hxc, hrl⟩ := cons_of s (by rw [hl]; exact hne)
  have hcd : isDig c := hd c (by rw [← hl, hxl]; simp)
  have p0 : (0 : Int) < (s.size : Int) := by omega
  have hb0 : ∀ (h : 0 < s.size), ((s[0]'h).toNat : Int) = (c.toNat : Int) := fun h => by rw [hxc]
  have e45 : ((c.toNat : Int) == 45) = false := by unfold isDig at hcd; simp; omega
  have HF : Hid (∀ V, Calls Tryz.prog 68 #[.int .u8 (c.toNat : Int)] V fun e w' => e = .returned (.bool true) ∧ V = w') := fun V => by have := rdigit_walk c V; rw [(digB_iff c).2 hcd] at this; exact this
  have HS : Hid (s.size ≤ 900 ∧ s.data.toList ≠ [] ∧ strip s.data.toList = strip ds) := ⟨hs, by rw [hl]; exact hne, by rw [hl]⟩
  clear hl hsl hd hne hxl hxc hrl hcd
  have HW : Hid (∀ V, _ → _) := res_later w
  obtain ⟨o, ho⟩ : ∃ o, num3 [] ds = o := ⟨_, rfl⟩
  rw [ho]
  have HO : Hid (num3 [] ds = o) := ho
  clear ho
  go_enter Tryz.func40, Tryz.ntmps40
  go_wp2_with (first
    | (go_at_call 68; with_reducible refine Calls.mono (HF.out _) ?_; rintro e w1 ⟨rfl, rfl⟩))
  go_loopw [0] (fun sv wr => ∃ x : ByteArray, sv = .string x ∧ x.size ≤ 900 ∧ x.data.toList ≠ [] ∧ strip x.data.toList = strip ds ∧ wr = w.alloc nilcells) (fun sv _ => strSz sv)
  case atStart => exact ⟨_, rfl, HS.out.1, HS.out.2.1, HS.out.2.2, rfl⟩
  case round =>
    clear HS HF
    try clear hb0
    try clear p0
    try clear p1
    obtain ⟨x, rfl, hx9, hxne, hst, rfl⟩ := hrel
    obtain ⟨c, r, h0, hxl, hxc, hrl⟩ := cons_of x hxne
    have hxs : x.size ≤ 1000 := by omega
    have hbx : ∀ (h : 0 < x.size), ((x[0]'h).toNat : Int) = (c.toNat : Int) := fun h => by rw [hxc]
    have q0 : (0 : Int) < (x.size : Int) := by omega
    have q1 : (1 : Int) ≤ (x.size : Int) := by omega
    cases r with
    | nil =>
      have l1 : ¬ (1 : Int) < (x.size : Int) := by simp at hrl; omega
      have hx' : x.data.toList = strip ds := by rw [← hst, hxl]; rfl
      have HXS : Hid (x.data.toList = strip ds) := hx'
      clear hx'
      clear hst hxl hxc hxne hrl
      have HN : Hid (∀ V, Calls Tryz.prog 69 #[.string x] V fun e w' => e = .returned (numV o) ∧ Below V.heap.size V w') := fun V => by have := number_walk x hxs V; rw [HXS.out] at this; rw [← HO.out]; unfold num3; rw [if_neg (fun h => absurd h.1 (by decide))]; exact this
      cases o with
      | none =>
        dsimp only [numV] at HN
        go_wp2_with (first
          | (go_at_call 69; with_reducible refine Calls.mono (HN.out _) ?_; rintro e w1 ⟨rfl, hb1⟩; obtain ⟨d0, d1, d2, f0, f1, f2, a0, a1, a2, b0, b1, b2, HK1, HB1, HL1⟩ := HW.out _ hb1; have HX1 := hide hb1; clear hb1)
          | (go_at_call 37; with_reducible refine Calls.mono (rnull_walk _) ?_; rintro e w2 ⟨rfl, hb2⟩; obtain ⟨d0, d1, d2, f0, f1, f2, a0, a1, a2, b0, b1, b2, HK2, HB2, HL2⟩ := HW.out _ (below_trans HX1.out hb2); clear hb2))
        exact ret_val Tryz.results40 rfl HK2.out ⟨rfl, below_set3 HB2.out _ _ _⟩
      | some m =>
        dsimp only [numV] at HN
        go_wp2_with (first
          | (go_at_call 69; with_reducible refine Calls.mono (HN.out _) ?_; rintro e w1 ⟨rfl, hb1⟩; obtain ⟨d0, d1, d2, f0, f1, f2, a0, a1, a2, b0, b1, b2, HK1, HB1, HL1⟩ := HW.out _ hb1; have HX1 := hide hb1; clear hb1)
          | (go_at_call 31; with_reducible refine Calls.mono (rint_walk _ _) ?_; rintro e w2 ⟨rfl, hb2⟩; obtain ⟨d0, d1, d2, f0, f1, f2, a0, a1, a2, b0, b1, b2, HK2, HB2, HL2⟩ := HW.out _ (below_trans HX1.out hb2); clear hb2))
        exact ret_val Tryz.results40 rfl HK2.out ⟨rfl, below_set3 HB2.out _ _ _⟩

    | cons d r =>
      have l1 : (1 : Int) < (x.size : Int) := by simp at hrl; omega
      by_cases hc : c = 48
      · have e48 : ((c.toNat : Int) == 48) = true := by rw [hc]; rfl
        have HR : Hid ((x.extract 1 x.size).size ≤ 900 ∧ (x.extract 1 x.size).data.toList ≠ [] ∧ strip (x.extract 1 x.size).data.toList = strip ds ∧ (x.extract 1 x.size).size < x.size) := by
          have e1 := ext_list x 1
          rw [hxl] at e1
          have e2 : (x.extract 1 x.size).size = x.size - 1 := by rw [ByteArray.size_extract]; omega
          refine ⟨by omega, by rw [e1]; simp, ?_, by omega⟩
          rw [e1, ← hst, hxl, strip_step c d r hc]; rfl
        clear hst hxl hxc hxne hrl hc
        go_wp2
        go_roundw
        case rel => exact ⟨_, rfl, HR.out.1, HR.out.2.1, HR.out.2.2.1, by first | rfl | trivial⟩
        case measure => exact HR.out.2.2.2
      · have e48 : ((c.toNat : Int) == 48) = false := by
          have : c.toNat ≠ 48 := fun e => hc (UInt8.toNat_inj.1 e)
          simp; omega
        have hx' : x.data.toList = strip ds := by rw [← hst, hxl, strip_stop2 c d r hc]
        have HXS : Hid (x.data.toList = strip ds) := hx'
        clear hx'
        clear hst hxl hxc hxne hrl hc
        have HN : Hid (∀ V, Calls Tryz.prog 69 #[.string x] V fun e w' => e = .returned (numV o) ∧ Below V.heap.size V w') := fun V => by have := number_walk x hxs V; rw [HXS.out] at this; rw [← HO.out]; unfold num3; rw [if_neg (fun h => absurd h.1 (by decide))]; exact this
        cases o with
        | none =>
          dsimp only [numV] at HN
          go_wp2_with (first
            | (go_at_call 69; with_reducible refine Calls.mono (HN.out _) ?_; rintro e w1 ⟨rfl, hb1⟩; obtain ⟨d0, d1, d2, f0, f1, f2, a0, a1, a2, b0, b1, b2, HK1, HB1, HL1⟩ := HW.out _ hb1; have HX1 := hide hb1; clear hb1)
            | (go_at_call 37; with_reducible refine Calls.mono (rnull_walk _) ?_; rintro e w2 ⟨rfl, hb2⟩; obtain ⟨d0, d1, d2, f0, f1, f2, a0, a1, a2, b0, b1, b2, HK2, HB2, HL2⟩ := HW.out _ (below_trans HX1.out hb2); clear hb2))
          exact ret_val Tryz.results40 rfl HK2.out ⟨rfl, below_set3 HB2.out _ _ _⟩
        | some m =>
          dsimp only [numV] at HN
          go_wp2_with (first
            | (go_at_call 69; with_reducible refine Calls.mono (HN.out _) ?_; rintro e w1 ⟨rfl, hb1⟩; obtain ⟨d0, d1, d2, f0, f1, f2, a0, a1, a2, b0, b1, b2, HK1, HB1, HL1⟩ := HW.out _ hb1; have HX1 := hide hb1; clear hb1)
            | (go_at_call 31; with_reducible refine Calls.mono (rint_walk _ _) ?_; rintro e w2 ⟨rfl, hb2⟩; obtain ⟨d0, d1, d2, f0, f1, f2, a0, a1, a2, b0, b1, b2, HK2, HB2, HL2⟩ := HW.out _ (below_trans HX1.out hb2); clear hb2))
          exact ret_val Tryz.results40 rfl HK2.out ⟨rfl, below_set3 HB2.out _ _ _⟩


theorem rnum3_walk (s : ByteArray) (hs : s.size ≤ 900) (sg ds : List UInt8) (hsg : sg = [] ∨ sg = [43] ∨ sg = [45]) (hl : s.data.toList = sg ++ ds) (hd : ∀ c ∈ ds, isDig c) (hne : ds ≠ []) (w : World) : Calls Tryz.prog 40 #[.string s] w fun e w' => e = .returned (optV (num3 sg ds)) ∧ Below w.heap.size w w' := by
  rcases hsg with rfl | rfl | rfl
  · exact rnum3_plain s hs ds hl hd hne w
  · exact rnum3_plus s hs ds hl hd hne w
  · exact rnum3_minus s hs ds hl hd hne w
end Go.Proofs.YtoekdeoekcmpgaaGreatDoor
