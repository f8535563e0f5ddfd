/- The walk of DiskSteps. -/
import Derived.Test.YtefcconbpomedaaV13
import Derived.Laws.Bits128
namespace Go.Proofs.Ytefcconbpomedaa
open Go.ChangeShapes Go.WideShapes Go.ChangeAt Go.RowKit
set_option linter.unusedVariables false

theorem i64_and4095 (n : Int) : bits .and .i64 n 4095 = n % 4096 := by
  have h127 : (BitVec.ofInt 64 4095).toNat = 2 ^ 12 - 1 := by decide
  have key : (BitVec.ofInt 64 n &&& BitVec.ofInt 64 4095).toNat = (n % ((2 ^ 64 : Nat) : Int)).toNat % 2 ^ 12 := by
    rw [BitVec.toNat_and, BitVec.toNat_ofInt, h127, Nat.and_two_pow_sub_one_eq_mod]
  show IntKind.i64.wrap ((BitVec.ofInt 64 n &&& BitVec.ofInt 64 4095).toNat : Nat) = n % 4096
  rw [key, IntKind.wrap_i64]
  omega
theorem StI.mono {D : DS} {i j : Nat} (h : StI D i) (hij : i ≤ j) : StI D j :=
  ⟨h.one, by have := h.chn; omega, h.room, h.f0, h.f1, h.s0, by have := h.s1; omega, by have := h.st; omega, h.born⟩
abbrev oneX : ByteArray := ⟨#[120]⟩
theorem write_x (w : World) (base b : Nat) (D : DS) (who : Nat → Nat) (R : Rep w base b D who) (h : StI D 30) (hdn : D.down = false) (hfu : D.fuse = 0) :
    Calls Try.prog 11 #[.pointer (some ⟨b, 0, none⟩), .string nmF, .int .i64 0, .string oneX] w fun e w' => e = .returned (.int .i64 0) ∧ Below base w w' ∧ ∃ D' who', Rep w' base b D' who' ∧ StI D' 31 ∧ D'.down = false ∧ D'.fuse = 0 := by
  have hfl := h.flen
  have hans : ans D = 0 := by unfold ans; rw [hfu]; rfl
  have hx : ((0 + oneX.size : Nat) : Int) = 1 := by decide
  have := write_ok w base b D who R (h.fine (by omega)) hdn nmF oneX 0 (by decide) (by decide) (.inr (by rw [h.room, hx]; omega))
  rw [hans] at this
  refine this.mono ?_
  rintro e w' ⟨h1, h2, f1, D1, v', cv', who', hE, h3⟩
  have hf := Entered.facts hE
  refine ⟨h1, h2, _, who', h3, h.write hE v' cv' oneX 0 (by omega) (by decide), ?_, ?_⟩
  · show (D1.down || D1.fuse == 1) = false
    rw [hf.1, hf.2.2.1, hdn, hfu]; rfl
  · show (if D1.fuse = 0 then 0 else D1.fuse - 1) = 0
    rw [hf.1, hfu]; rfl
theorem sync_x (w : World) (base b : Nat) (D : DS) (who : Nat → Nat) (R : Rep w base b D who) (h : StI D 31) (hdn : D.down = false) (hfu : D.fuse = 0) :
    Calls Try.prog 13 #[.pointer (some ⟨b, 0, none⟩), .string nmF] w fun e w' => e = .returned (.int .i64 0) ∧ Below base w w' :=
  (sync_up w base b D who R (h.sane (by omega)) (h.fine (by omega)) hdn (by rw [hfu]; decide) nmF).mono fun e w' h => ⟨h.1, h.2.1⟩
theorem restart_x (w : World) (base b : Nat) (D : DS) (who : Nat → Nat) (R : Rep w base b D who) {i : Nat} (hi : i ≤ 25) (h : StI D i) (hdn : D.down = true) :
    Calls Try.prog 14 #[.pointer (some ⟨b, 0, none⟩), .slice none 0 0] w fun e w' => e = .returned (.int .i64 0) ∧ Below base w w' ∧ ∃ D' who', Rep w' base b D' who' ∧ StI D' 30 ∧ D'.down = false ∧ D'.fuse = 0 := by
  refine (restart_nil w base b D who R (h.sane (by omega)) h.uniq hdn (by have := h.st; omega)).mono ?_
  rintro e w' ⟨h1, h2, D', who', h3, h4⟩
  have hfs : D'.fs = [] := by
    cases hq : D'.fs with
    | nil => rfl
    | cons f r =>
      exfalso
      obtain ⟨_, hk, f0, g1, g2, g3, g4⟩ := h4.each f (by rw [hq]; simp)
      rcases h.one with ⟨k1, k2⟩ | ⟨x, k1, k2, k3, k4, k5⟩
      · rw [k1] at g1; cases g1
      · rw [k1] at g1
        have e : f0 = x := by simpa using g1
        rw [e, k4] at g4
        exact hk g4.symm
  refine ⟨h1, h2, D', who', h3, ⟨.inl ⟨hfs, h4.chs⟩, by rw [h4.chs]; simp, by rw [h4.room]; exact h.room, by rw [h4.fuse]; decide, by rw [h4.fuse]; decide, by rw [h4.steps]; decide, by rw [h4.steps]; decide, ?_, fun f hf => by rw [hfs] at hf; cases hf⟩, h4.down, h4.fuse⟩
  rw [h4.starts]
  have := h.st
  omega


set_option maxHeartbeats 8000000 in
set_option maxRecDepth 100000 in
theorem steps_walk (w : World) (p : Option Addr) (len cap : Nat) (A : Nat → Int) (S : Nat → ByteArray) (h : FP w p len A S) (n : Int) (hn : -9223372036854775808 ≤ n ∧ n ≤ 9223372036854775807) :
    Calls Try.prog 6 #[.slice p len cap, .int .i64 n] w fun e w' => e = .returned (.bool true) ∧ Below w.heap.size w w' := by
  have HH := hide h
  have HAw := hide awake_any
  by_cases h20 : (20 : Int) < (len : Int)
  · clear h HH
    go_enter Try.func6, Try.ntmps6
    go_wp2_with (first
      | (go_at_call 22; refine Calls.mono (HAw.out _) ?_; rintro e w1 ⟨rfl, hb⟩; have Hb := hide hb; clear hb))
    go_ret
    exact ⟨rfl, Hb.out⟩
  have HLo := hide (long_any w p len cap A S h (by omega))
  clear h
  by_cases hlong : LongF len S
  · go_enter Try.func6, Try.ntmps6
    go_wp2_with (first
      | (go_at_call 26; refine Calls.mono HLo.out ?_; rintro e w1 ⟨⟨x, rfl, hx⟩, rfl⟩; obtain rfl := hx.2 hlong)
      | (go_at_call 22; refine Calls.mono (HAw.out _) ?_; rintro e w1 ⟨rfl, hb⟩; have Hb := hide hb; clear hb))
    go_ret
    exact ⟨rfl, Hb.out⟩
  have HN : Hid (∀ i, i < len → (S i).size ≤ 2000) := fun i hi => by
    refine Nat.le_of_not_lt fun hc => hlong ⟨i, hi, hc⟩
  have HNew := hide (new_any w 200000 (by decide))
  have HCr := hide (fun V base b D who (R : Rep V base b D who) => crashIn_any V base b D who R n)
  go_enter Try.func6, Try.ntmps6
  go_upto_region 7 with (first
    | (go_at_call 26; refine Calls.mono HLo.out ?_; rintro e w1 ⟨⟨x, rfl, hx⟩, rfl⟩; obtain rfl : x = false := by cases x with | false => rfl | true => exact absurd (hx.1 rfl) hlong)
    | (go_at_call 27; refine Calls.mono HNew.out ?_; rintro e w2 ⟨rfl, hg2, who2, hR2⟩; have HG2 := hide hg2; have HR2 := hide hR2; clear hg2 hR2)
    | (go_at_call 9; refine Calls.mono (HCr.out _ _ _ _ _ HR2.out) ?_; rintro e w3 ⟨rfl, hR3, hb3⟩; have HR3 := hide hR3; have Hb3 := hide hb3; clear hR3 hb3))
  have HbX : Hid (Below w.heap.size w w3) := ((Only.of_grown HG2.out).below (Nat.le_refl _) (by simp)).trans Hb3.out
  have HR0 := HR3
  have HJ0 : Hid (StJ { DS.fresh w.heap.size 200000 with fuse := max n 0 } n 0) := by
    refine ⟨⟨.inl ⟨rfl, rfl⟩, Nat.zero_le _, rfl, by show 0 ≤ max n 0; omega, by show max n 0 ≤ _; omega, by show (0 : Int) ≤ 0; omega, by show (0 : Int) ≤ ((0 : Nat) : Int); omega, by show (0 : Int) ≤ 0 ∧ (0 : Int) ≤ 1000000 + ((0 : Nat) : Int); omega, fun f hf => by cases hf⟩, ?_, fun _ => ?_⟩
    · show false = _
      unfold crB
      rw [decide_eq_false (by omega)]
    · show max n 0 = _
      split <;> omega
  clear HR3 HG2 HR2 Hb3
  go_loopw [6, 7] (fun dv iv wr => ∃ (i : Nat) (Di : DS) (whoi : Nat → Nat), i ≤ len ∧ dv = .bool (crB n i) ∧ iv = .int .i64 (i : Int) ∧ Rep wr w.heap.size (w.heap.size + 1) Di whoi ∧ StJ Di n i ∧ Below w.heap.size w wr) (fun _ iv _ => len - (intOf iv).toNat)
  case atStart =>
    refine ⟨0, _, who2, Nat.zero_le _, ?_, rfl, HR0.out, HJ0.out, HbX.out⟩
    unfold crB
    rw [decide_eq_false (by omega)]
  case round =>
    obtain ⟨i, Di, whoi, hi, rfl, rfl, hRi, hJi, hbi⟩ := hrel
    have HRi := hide hRi
    have HJi := hide hJi
    have Hbi := hide hbi
    clear hRi hJi hbi
    by_cases hlt : i < len
    · obtain ⟨g, o, rfl, hc⟩ := HH.out (by omega)
      have HSt : Hid (∀ V, Below w.heap.size wr.drew V → V.cell? ⟨g, o + i * 2, none⟩ = some (.int .i64 (A i)) ∧ V.cell? ⟨g, o + i * 2 + 1, none⟩ = some (.string (S i))) := fun V hV => by
        have hbV : Below w.heap.size w V := Hbi.out.trans ((Below.refl _ wr).drew.trans hV)
        exact ⟨cell_laterD hbV (hc i hlt).1, cell_laterD hbV (hc i hlt).2⟩
      obtain ⟨at_, hat⟩ : ∃ at_ : Nat, (at_ : Int) = A i % 4096 := ⟨(A i % 4096).toNat, by omega⟩
      have hand : bits .and .i64 (A i) 4095 = (at_ : Int) := by rw [i64_and4095]; exact hat.symm
      have HWs0 := hide (fun V (hV : Rep V w.heap.size (w.heap.size + 1) Di whoi) => write_step V w.heap.size (w.heap.size + 1) Di whoi hV n i HJi.out (by omega) (S i) at_ (by omega) (HN.out i hlt))
      have l1 : (i : Int) < (len : Int) := by omega
      have l0 : (0 : Int) ≤ (i : Int) := by omega
      have hw1 : IntKind.i64.wrap ((i : Int) + 1) = (i : Int) + 1 := by rw [IntKind.wrap_i64]; omega
      clear hc hat
      cases hb1 : crB n (i + 1) with
      | true =>
        have hcr := of_decide_eq_true hb1
        have g1 : (1 : Int) ≤ n := hcr.1
        have g2 : n ≤ (i : Int) + 1 := by have := hcr.2; omega
        have HWs := HWs0
        rw [hb1] at HWs
        clear hcr
        go_upto_region 9 with fail
        refine wp_region_held_drew (S := fun V => V.cell? ⟨g, o + i * 2, none⟩ = some (.int .i64 (A i)) ∧ V.cell? ⟨g, o + i * 2 + 1, none⟩ = some (.string (S i))) (by kernel_rfl) (HSt.out _ (Below.refl _ _)) ?_
        intro hHeld
        refine wpAnyH_take (i := 0) (v := .pointer (some ⟨w.heap.size + 1, 0, none⟩)) rfl (by kernel_rfl) (by kernel_rfl) (by kernel_rfl) (fun _ _ _ h => h) (Or.inl ⟨by rfl, fun V hV => by (obtain ⟨f1, f2⟩ := hV; go_simp)⟩) hHeld ?_
        try simp only [Act.put, List.getElem_toArray, List.getElem_cons_zero, List.setIfInBounds_toArray, List.set_cons_zero, List.set_cons_succ]
        refine wpAnyH_take (i := 1) (v := .slice (some ⟨g, o, none⟩) len cap) rfl (by kernel_rfl) (by kernel_rfl) (by kernel_rfl) (fun _ _ _ h => h) (Or.inl ⟨by rfl, fun V hV => by (obtain ⟨f1, f2⟩ := hV; go_simp)⟩) hHeld ?_
        try simp only [Act.put, List.getElem_toArray, List.getElem_cons_succ, List.getElem_cons_zero, List.setIfInBounds_toArray, List.set_cons_zero, List.set_cons_succ]
        refine wpAnyH_take (i := 2) (v := .int .i64 (i : Int)) rfl (by kernel_rfl) (by kernel_rfl) (by kernel_rfl) (fun _ _ _ h => h) (Or.inl ⟨by rfl, fun V hV => by (obtain ⟨f1, f2⟩ := hV; go_simp)⟩) hHeld ?_
        try simp only [Act.put, List.getElem_toArray, List.getElem_cons_succ, List.getElem_cons_zero, List.setIfInBounds_toArray, List.set_cons_zero, List.set_cons_succ]
        refine wpAnyH_take (i := 3) (v := .pointer (some ⟨g, o + i * 2, none⟩)) rfl (by kernel_rfl) (by kernel_rfl) (by kernel_rfl) (fun _ _ _ h => h) (Or.inl ⟨by rfl, fun V hV => by (obtain ⟨f1, f2⟩ := hV; go_simp)⟩) hHeld ?_
        try simp only [Act.put, List.getElem_toArray, List.getElem_cons_succ, List.getElem_cons_zero, List.setIfInBounds_toArray, List.set_cons_zero, List.set_cons_succ]
        refine wpAnyH_take (i := 4) (v := .pointer (some ⟨g, o + i * 2, none⟩)) rfl (by kernel_rfl) (by kernel_rfl) (by kernel_rfl) (fun _ _ _ h => h) (Or.inl ⟨by rfl, fun V hV => by (obtain ⟨f1, f2⟩ := hV; go_simp)⟩) hHeld ?_
        try simp only [Act.put, List.getElem_toArray, List.getElem_cons_succ, List.getElem_cons_zero, List.setIfInBounds_toArray, List.set_cons_zero, List.set_cons_succ]
        refine wpAnyH_take (i := 5) (v := .int .i64 (A i)) rfl (by kernel_rfl) (by kernel_rfl) (by kernel_rfl) (fun _ _ _ h => h) (Or.inl ⟨by rfl, fun V hV => by (obtain ⟨f1, f2⟩ := hV; go_simp)⟩) hHeld ?_
        try simp only [Act.put, List.getElem_toArray, List.getElem_cons_succ, List.getElem_cons_zero, List.setIfInBounds_toArray, List.set_cons_zero, List.set_cons_succ]
        refine wpAnyH_take (i := 6) (v := .int .i64 (at_ : Int)) rfl (by kernel_rfl) (by kernel_rfl) (by kernel_rfl) (fun _ _ _ h => h) (Or.inl ⟨by rfl, fun V hV => by (obtain ⟨f1, f2⟩ := hV; go_simp)⟩) hHeld ?_
        try simp only [Act.put, List.getElem_toArray, List.getElem_cons_succ, List.getElem_cons_zero, List.setIfInBounds_toArray, List.set_cons_zero, List.set_cons_succ]
        refine wpAnyH_take (i := 7) (v := .slice (some ⟨g, o, none⟩) len cap) rfl (by kernel_rfl) (by kernel_rfl) (by kernel_rfl) (fun _ _ _ h => h) (Or.inl ⟨by rfl, fun V hV => by (obtain ⟨f1, f2⟩ := hV; go_simp)⟩) hHeld ?_
        try simp only [Act.put, List.getElem_toArray, List.getElem_cons_succ, List.getElem_cons_zero, List.setIfInBounds_toArray, List.set_cons_zero, List.set_cons_succ]
        refine wpAnyH_take (i := 8) (v := .int .i64 (i : Int)) rfl (by kernel_rfl) (by kernel_rfl) (by kernel_rfl) (fun _ _ _ h => h) (Or.inl ⟨by rfl, fun V hV => by (obtain ⟨f1, f2⟩ := hV; go_simp)⟩) hHeld ?_
        try simp only [Act.put, List.getElem_toArray, List.getElem_cons_succ, List.getElem_cons_zero, List.setIfInBounds_toArray, List.set_cons_zero, List.set_cons_succ]
        refine wpAnyH_take (i := 9) (v := .pointer (some ⟨g, o + i * 2, none⟩)) rfl (by kernel_rfl) (by kernel_rfl) (by kernel_rfl) (fun _ _ _ h => h) (Or.inl ⟨by rfl, fun V hV => by (obtain ⟨f1, f2⟩ := hV; go_simp)⟩) hHeld ?_
        try simp only [Act.put, List.getElem_toArray, List.getElem_cons_succ, List.getElem_cons_zero, List.setIfInBounds_toArray, List.set_cons_zero, List.set_cons_succ]
        refine wpAnyH_take (i := 10) (v := .pointer (some ⟨g, o + i * 2 + 1, none⟩)) rfl (by kernel_rfl) (by kernel_rfl) (by kernel_rfl) (fun _ _ _ h => h) (Or.inl ⟨by rfl, fun V hV => by (obtain ⟨f1, f2⟩ := hV; go_simp)⟩) hHeld ?_
        try simp only [Act.put, List.getElem_toArray, List.getElem_cons_succ, List.getElem_cons_zero, List.setIfInBounds_toArray, List.set_cons_zero, List.set_cons_succ]
        refine wpAnyH_take (i := 11) (v := .string (S i)) rfl (by kernel_rfl) (by kernel_rfl) (by kernel_rfl) (fun _ _ _ h => h) (Or.inl ⟨by rfl, fun V hV => by (obtain ⟨f1, f2⟩ := hV; go_simp)⟩) hHeld ?_
        try simp only [Act.put, List.getElem_toArray, List.getElem_cons_succ, List.getElem_cons_zero, List.setIfInBounds_toArray, List.set_cons_zero, List.set_cons_succ]
        refine wpAnyH_ready (rs := [12]) (by kernel_rfl) (by simp) ?_
        refine AllReadyH.cons rfl (fun K hK => ?_) AllReadyH.nil
        go_simp
        go_at_call 11; refine Calls.mono (HWs.out _ HRi.out.drew) ?_; rintro e w3 ⟨rfl, hb3, D3, who3, hR3, hJ3⟩; have Hb3 := hide hb3; have HR3 := hide hR3; have HJ3 := hide hJ3; clear hb3 hR3 hJ3
        go_wp2_with fail
        refine hK.out _ _ (HSt.out w3 Hb3.out) (fun hHeld => ?_)
        clear hK K
        try simp only [Act.put, List.getElem_toArray, List.getElem_cons_succ, List.getElem_cons_zero, List.setIfInBounds_toArray, List.set_cons_zero, List.set_cons_succ]
        refine wpAnyH_take (i := 13) (v := .int .i64 7) rfl (by kernel_rfl) (by kernel_rfl) (by kernel_rfl) (fun _ _ _ h => h) (Or.inl ⟨by rfl, fun V hV => by (obtain ⟨f1, f2⟩ := hV; go_simp)⟩) hHeld ?_
        try simp only [Act.put, List.getElem_toArray, List.getElem_cons_succ, List.getElem_cons_zero, List.setIfInBounds_toArray, List.set_cons_zero, List.set_cons_succ]
        refine wpAnyH_done (by kernel_rfl) ?_ _
        have HDn : Hid (Calls Try.prog 17 #[.pointer (some ⟨w.heap.size + 1, 0, none⟩)] w3 fun e w' => e = .returned (.bool true) ∧ w3 = w') := by
          have := down_any w3 w.heap.size (w.heap.size + 1) D3 who3 HR3.out
          rw [HJ3.out.down, hb1] at this
          exact this
        go_wp2_with (first
          | (go_at_call 17; refine Calls.mono HDn.out ?_; rintro e w4 ⟨rfl, rfl⟩))
        go_roundw
        case rel => exact ⟨i + 1, D3, who3, hlt, by rw [hb1]; first | done | (rw [decide_eq_false (by omega)]), rfl, HR3.out, HJ3.out, Hbi.out.trans ((Below.refl _ wr).drew.trans Hb3.out)⟩
        case measure => simp only [intOf]; simp; omega
      | false =>
        have hcr := of_decide_eq_false hb1
        have HWs := HWs0
        rw [hb1] at HWs
        by_cases g1 : (1 : Int) ≤ n
        · have g2 : ¬ n ≤ (i : Int) + 1 := by omega
          clear hcr
          go_upto_region 9 with fail
          refine wp_region_held_drew (S := fun V => V.cell? ⟨g, o + i * 2, none⟩ = some (.int .i64 (A i)) ∧ V.cell? ⟨g, o + i * 2 + 1, none⟩ = some (.string (S i))) (by kernel_rfl) (HSt.out _ (Below.refl _ _)) ?_
          intro hHeld
          refine wpAnyH_take (i := 0) (v := .pointer (some ⟨w.heap.size + 1, 0, none⟩)) rfl (by kernel_rfl) (by kernel_rfl) (by kernel_rfl) (fun _ _ _ h => h) (Or.inl ⟨by rfl, fun V hV => by (obtain ⟨f1, f2⟩ := hV; go_simp)⟩) hHeld ?_
          try simp only [Act.put, List.getElem_toArray, List.getElem_cons_zero, List.setIfInBounds_toArray, List.set_cons_zero, List.set_cons_succ]
          refine wpAnyH_take (i := 1) (v := .slice (some ⟨g, o, none⟩) len cap) rfl (by kernel_rfl) (by kernel_rfl) (by kernel_rfl) (fun _ _ _ h => h) (Or.inl ⟨by rfl, fun V hV => by (obtain ⟨f1, f2⟩ := hV; go_simp)⟩) hHeld ?_
          try simp only [Act.put, List.getElem_toArray, List.getElem_cons_succ, List.getElem_cons_zero, List.setIfInBounds_toArray, List.set_cons_zero, List.set_cons_succ]
          refine wpAnyH_take (i := 2) (v := .int .i64 (i : Int)) rfl (by kernel_rfl) (by kernel_rfl) (by kernel_rfl) (fun _ _ _ h => h) (Or.inl ⟨by rfl, fun V hV => by (obtain ⟨f1, f2⟩ := hV; go_simp)⟩) hHeld ?_
          try simp only [Act.put, List.getElem_toArray, List.getElem_cons_succ, List.getElem_cons_zero, List.setIfInBounds_toArray, List.set_cons_zero, List.set_cons_succ]
          refine wpAnyH_take (i := 3) (v := .pointer (some ⟨g, o + i * 2, none⟩)) rfl (by kernel_rfl) (by kernel_rfl) (by kernel_rfl) (fun _ _ _ h => h) (Or.inl ⟨by rfl, fun V hV => by (obtain ⟨f1, f2⟩ := hV; go_simp)⟩) hHeld ?_
          try simp only [Act.put, List.getElem_toArray, List.getElem_cons_succ, List.getElem_cons_zero, List.setIfInBounds_toArray, List.set_cons_zero, List.set_cons_succ]
          refine wpAnyH_take (i := 4) (v := .pointer (some ⟨g, o + i * 2, none⟩)) rfl (by kernel_rfl) (by kernel_rfl) (by kernel_rfl) (fun _ _ _ h => h) (Or.inl ⟨by rfl, fun V hV => by (obtain ⟨f1, f2⟩ := hV; go_simp)⟩) hHeld ?_
          try simp only [Act.put, List.getElem_toArray, List.getElem_cons_succ, List.getElem_cons_zero, List.setIfInBounds_toArray, List.set_cons_zero, List.set_cons_succ]
          refine wpAnyH_take (i := 5) (v := .int .i64 (A i)) rfl (by kernel_rfl) (by kernel_rfl) (by kernel_rfl) (fun _ _ _ h => h) (Or.inl ⟨by rfl, fun V hV => by (obtain ⟨f1, f2⟩ := hV; go_simp)⟩) hHeld ?_
          try simp only [Act.put, List.getElem_toArray, List.getElem_cons_succ, List.getElem_cons_zero, List.setIfInBounds_toArray, List.set_cons_zero, List.set_cons_succ]
          refine wpAnyH_take (i := 6) (v := .int .i64 (at_ : Int)) rfl (by kernel_rfl) (by kernel_rfl) (by kernel_rfl) (fun _ _ _ h => h) (Or.inl ⟨by rfl, fun V hV => by (obtain ⟨f1, f2⟩ := hV; go_simp)⟩) hHeld ?_
          try simp only [Act.put, List.getElem_toArray, List.getElem_cons_succ, List.getElem_cons_zero, List.setIfInBounds_toArray, List.set_cons_zero, List.set_cons_succ]
          refine wpAnyH_take (i := 7) (v := .slice (some ⟨g, o, none⟩) len cap) rfl (by kernel_rfl) (by kernel_rfl) (by kernel_rfl) (fun _ _ _ h => h) (Or.inl ⟨by rfl, fun V hV => by (obtain ⟨f1, f2⟩ := hV; go_simp)⟩) hHeld ?_
          try simp only [Act.put, List.getElem_toArray, List.getElem_cons_succ, List.getElem_cons_zero, List.setIfInBounds_toArray, List.set_cons_zero, List.set_cons_succ]
          refine wpAnyH_take (i := 8) (v := .int .i64 (i : Int)) rfl (by kernel_rfl) (by kernel_rfl) (by kernel_rfl) (fun _ _ _ h => h) (Or.inl ⟨by rfl, fun V hV => by (obtain ⟨f1, f2⟩ := hV; go_simp)⟩) hHeld ?_
          try simp only [Act.put, List.getElem_toArray, List.getElem_cons_succ, List.getElem_cons_zero, List.setIfInBounds_toArray, List.set_cons_zero, List.set_cons_succ]
          refine wpAnyH_take (i := 9) (v := .pointer (some ⟨g, o + i * 2, none⟩)) rfl (by kernel_rfl) (by kernel_rfl) (by kernel_rfl) (fun _ _ _ h => h) (Or.inl ⟨by rfl, fun V hV => by (obtain ⟨f1, f2⟩ := hV; go_simp)⟩) hHeld ?_
          try simp only [Act.put, List.getElem_toArray, List.getElem_cons_succ, List.getElem_cons_zero, List.setIfInBounds_toArray, List.set_cons_zero, List.set_cons_succ]
          refine wpAnyH_take (i := 10) (v := .pointer (some ⟨g, o + i * 2 + 1, none⟩)) rfl (by kernel_rfl) (by kernel_rfl) (by kernel_rfl) (fun _ _ _ h => h) (Or.inl ⟨by rfl, fun V hV => by (obtain ⟨f1, f2⟩ := hV; go_simp)⟩) hHeld ?_
          try simp only [Act.put, List.getElem_toArray, List.getElem_cons_succ, List.getElem_cons_zero, List.setIfInBounds_toArray, List.set_cons_zero, List.set_cons_succ]
          refine wpAnyH_take (i := 11) (v := .string (S i)) rfl (by kernel_rfl) (by kernel_rfl) (by kernel_rfl) (fun _ _ _ h => h) (Or.inl ⟨by rfl, fun V hV => by (obtain ⟨f1, f2⟩ := hV; go_simp)⟩) hHeld ?_
          try simp only [Act.put, List.getElem_toArray, List.getElem_cons_succ, List.getElem_cons_zero, List.setIfInBounds_toArray, List.set_cons_zero, List.set_cons_succ]
          refine wpAnyH_ready (rs := [12]) (by kernel_rfl) (by simp) ?_
          refine AllReadyH.cons rfl (fun K hK => ?_) AllReadyH.nil
          go_simp
          go_at_call 11; refine Calls.mono (HWs.out _ HRi.out.drew) ?_; rintro e w3 ⟨rfl, hb3, D3, who3, hR3, hJ3⟩; have Hb3 := hide hb3; have HR3 := hide hR3; have HJ3 := hide hJ3; clear hb3 hR3 hJ3
          go_wp2_with fail
          refine hK.out _ _ (HSt.out w3 Hb3.out) (fun hHeld => ?_)
          clear hK K
          try simp only [Act.put, List.getElem_toArray, List.getElem_cons_succ, List.getElem_cons_zero, List.setIfInBounds_toArray, List.set_cons_zero, List.set_cons_succ]
          refine wpAnyH_take (i := 13) (v := .int .i64 0) rfl (by kernel_rfl) (by kernel_rfl) (by kernel_rfl) (fun _ _ _ h => h) (Or.inl ⟨by rfl, fun V hV => by (obtain ⟨f1, f2⟩ := hV; go_simp)⟩) hHeld ?_
          try simp only [Act.put, List.getElem_toArray, List.getElem_cons_succ, List.getElem_cons_zero, List.setIfInBounds_toArray, List.set_cons_zero, List.set_cons_succ]
          refine wpAnyH_done (by kernel_rfl) ?_ _
          have HDn : Hid (Calls Try.prog 17 #[.pointer (some ⟨w.heap.size + 1, 0, none⟩)] w3 fun e w' => e = .returned (.bool false) ∧ w3 = w') := by
            have := down_any w3 w.heap.size (w.heap.size + 1) D3 who3 HR3.out
            rw [HJ3.out.down, hb1] at this
            exact this
          go_wp2_with (first
            | (go_at_call 17; refine Calls.mono HDn.out ?_; rintro e w4 ⟨rfl, rfl⟩))
          go_roundw
          case rel => exact ⟨i + 1, D3, who3, hlt, by rw [hb1]; first | done | (rw [decide_eq_false (by omega)]), rfl, HR3.out, HJ3.out, Hbi.out.trans ((Below.refl _ wr).drew.trans Hb3.out)⟩
          case measure => simp only [intOf]; simp; omega
        · clear hcr
          go_upto_region 9 with fail
          refine wp_region_held_drew (S := fun V => V.cell? ⟨g, o + i * 2, none⟩ = some (.int .i64 (A i)) ∧ V.cell? ⟨g, o + i * 2 + 1, none⟩ = some (.string (S i))) (by kernel_rfl) (HSt.out _ (Below.refl _ _)) ?_
          intro hHeld
          refine wpAnyH_take (i := 0) (v := .pointer (some ⟨w.heap.size + 1, 0, none⟩)) rfl (by kernel_rfl) (by kernel_rfl) (by kernel_rfl) (fun _ _ _ h => h) (Or.inl ⟨by rfl, fun V hV => by (obtain ⟨f1, f2⟩ := hV; go_simp)⟩) hHeld ?_
          try simp only [Act.put, List.getElem_toArray, List.getElem_cons_zero, List.setIfInBounds_toArray, List.set_cons_zero, List.set_cons_succ]
          refine wpAnyH_take (i := 1) (v := .slice (some ⟨g, o, none⟩) len cap) rfl (by kernel_rfl) (by kernel_rfl) (by kernel_rfl) (fun _ _ _ h => h) (Or.inl ⟨by rfl, fun V hV => by (obtain ⟨f1, f2⟩ := hV; go_simp)⟩) hHeld ?_
          try simp only [Act.put, List.getElem_toArray, List.getElem_cons_succ, List.getElem_cons_zero, List.setIfInBounds_toArray, List.set_cons_zero, List.set_cons_succ]
          refine wpAnyH_take (i := 2) (v := .int .i64 (i : Int)) rfl (by kernel_rfl) (by kernel_rfl) (by kernel_rfl) (fun _ _ _ h => h) (Or.inl ⟨by rfl, fun V hV => by (obtain ⟨f1, f2⟩ := hV; go_simp)⟩) hHeld ?_
          try simp only [Act.put, List.getElem_toArray, List.getElem_cons_succ, List.getElem_cons_zero, List.setIfInBounds_toArray, List.set_cons_zero, List.set_cons_succ]
          refine wpAnyH_take (i := 3) (v := .pointer (some ⟨g, o + i * 2, none⟩)) rfl (by kernel_rfl) (by kernel_rfl) (by kernel_rfl) (fun _ _ _ h => h) (Or.inl ⟨by rfl, fun V hV => by (obtain ⟨f1, f2⟩ := hV; go_simp)⟩) hHeld ?_
          try simp only [Act.put, List.getElem_toArray, List.getElem_cons_succ, List.getElem_cons_zero, List.setIfInBounds_toArray, List.set_cons_zero, List.set_cons_succ]
          refine wpAnyH_take (i := 4) (v := .pointer (some ⟨g, o + i * 2, none⟩)) rfl (by kernel_rfl) (by kernel_rfl) (by kernel_rfl) (fun _ _ _ h => h) (Or.inl ⟨by rfl, fun V hV => by (obtain ⟨f1, f2⟩ := hV; go_simp)⟩) hHeld ?_
          try simp only [Act.put, List.getElem_toArray, List.getElem_cons_succ, List.getElem_cons_zero, List.setIfInBounds_toArray, List.set_cons_zero, List.set_cons_succ]
          refine wpAnyH_take (i := 5) (v := .int .i64 (A i)) rfl (by kernel_rfl) (by kernel_rfl) (by kernel_rfl) (fun _ _ _ h => h) (Or.inl ⟨by rfl, fun V hV => by (obtain ⟨f1, f2⟩ := hV; go_simp)⟩) hHeld ?_
          try simp only [Act.put, List.getElem_toArray, List.getElem_cons_succ, List.getElem_cons_zero, List.setIfInBounds_toArray, List.set_cons_zero, List.set_cons_succ]
          refine wpAnyH_take (i := 6) (v := .int .i64 (at_ : Int)) rfl (by kernel_rfl) (by kernel_rfl) (by kernel_rfl) (fun _ _ _ h => h) (Or.inl ⟨by rfl, fun V hV => by (obtain ⟨f1, f2⟩ := hV; go_simp)⟩) hHeld ?_
          try simp only [Act.put, List.getElem_toArray, List.getElem_cons_succ, List.getElem_cons_zero, List.setIfInBounds_toArray, List.set_cons_zero, List.set_cons_succ]
          refine wpAnyH_take (i := 7) (v := .slice (some ⟨g, o, none⟩) len cap) rfl (by kernel_rfl) (by kernel_rfl) (by kernel_rfl) (fun _ _ _ h => h) (Or.inl ⟨by rfl, fun V hV => by (obtain ⟨f1, f2⟩ := hV; go_simp)⟩) hHeld ?_
          try simp only [Act.put, List.getElem_toArray, List.getElem_cons_succ, List.getElem_cons_zero, List.setIfInBounds_toArray, List.set_cons_zero, List.set_cons_succ]
          refine wpAnyH_take (i := 8) (v := .int .i64 (i : Int)) rfl (by kernel_rfl) (by kernel_rfl) (by kernel_rfl) (fun _ _ _ h => h) (Or.inl ⟨by rfl, fun V hV => by (obtain ⟨f1, f2⟩ := hV; go_simp)⟩) hHeld ?_
          try simp only [Act.put, List.getElem_toArray, List.getElem_cons_succ, List.getElem_cons_zero, List.setIfInBounds_toArray, List.set_cons_zero, List.set_cons_succ]
          refine wpAnyH_take (i := 9) (v := .pointer (some ⟨g, o + i * 2, none⟩)) rfl (by kernel_rfl) (by kernel_rfl) (by kernel_rfl) (fun _ _ _ h => h) (Or.inl ⟨by rfl, fun V hV => by (obtain ⟨f1, f2⟩ := hV; go_simp)⟩) hHeld ?_
          try simp only [Act.put, List.getElem_toArray, List.getElem_cons_succ, List.getElem_cons_zero, List.setIfInBounds_toArray, List.set_cons_zero, List.set_cons_succ]
          refine wpAnyH_take (i := 10) (v := .pointer (some ⟨g, o + i * 2 + 1, none⟩)) rfl (by kernel_rfl) (by kernel_rfl) (by kernel_rfl) (fun _ _ _ h => h) (Or.inl ⟨by rfl, fun V hV => by (obtain ⟨f1, f2⟩ := hV; go_simp)⟩) hHeld ?_
          try simp only [Act.put, List.getElem_toArray, List.getElem_cons_succ, List.getElem_cons_zero, List.setIfInBounds_toArray, List.set_cons_zero, List.set_cons_succ]
          refine wpAnyH_take (i := 11) (v := .string (S i)) rfl (by kernel_rfl) (by kernel_rfl) (by kernel_rfl) (fun _ _ _ h => h) (Or.inl ⟨by rfl, fun V hV => by (obtain ⟨f1, f2⟩ := hV; go_simp)⟩) hHeld ?_
          try simp only [Act.put, List.getElem_toArray, List.getElem_cons_succ, List.getElem_cons_zero, List.setIfInBounds_toArray, List.set_cons_zero, List.set_cons_succ]
          refine wpAnyH_ready (rs := [12]) (by kernel_rfl) (by simp) ?_
          refine AllReadyH.cons rfl (fun K hK => ?_) AllReadyH.nil
          go_simp
          go_at_call 11; refine Calls.mono (HWs.out _ HRi.out.drew) ?_; rintro e w3 ⟨rfl, hb3, D3, who3, hR3, hJ3⟩; have Hb3 := hide hb3; have HR3 := hide hR3; have HJ3 := hide hJ3; clear hb3 hR3 hJ3
          go_wp2_with fail
          refine hK.out _ _ (HSt.out w3 Hb3.out) (fun hHeld => ?_)
          clear hK K
          try simp only [Act.put, List.getElem_toArray, List.getElem_cons_succ, List.getElem_cons_zero, List.setIfInBounds_toArray, List.set_cons_zero, List.set_cons_succ]
          refine wpAnyH_take (i := 13) (v := .int .i64 0) rfl (by kernel_rfl) (by kernel_rfl) (by kernel_rfl) (fun _ _ _ h => h) (Or.inl ⟨by rfl, fun V hV => by (obtain ⟨f1, f2⟩ := hV; go_simp)⟩) hHeld ?_
          try simp only [Act.put, List.getElem_toArray, List.getElem_cons_succ, List.getElem_cons_zero, List.setIfInBounds_toArray, List.set_cons_zero, List.set_cons_succ]
          refine wpAnyH_done (by kernel_rfl) ?_ _
          have HDn : Hid (Calls Try.prog 17 #[.pointer (some ⟨w.heap.size + 1, 0, none⟩)] w3 fun e w' => e = .returned (.bool false) ∧ w3 = w') := by
            have := down_any w3 w.heap.size (w.heap.size + 1) D3 who3 HR3.out
            rw [HJ3.out.down, hb1] at this
            exact this
          go_wp2_with (first
            | (go_at_call 17; refine Calls.mono HDn.out ?_; rintro e w4 ⟨rfl, rfl⟩))
          go_roundw
          case rel => exact ⟨i + 1, D3, who3, hlt, by rw [hb1]; first | done | (rw [decide_eq_false (by omega)]), rfl, HR3.out, HJ3.out, Hbi.out.trans ((Below.refl _ wr).drew.trans Hb3.out)⟩
          case measure => simp only [intOf]; simp; omega
    · obtain rfl : i = len := by omega
      have HStI := hide HJi.out.st
      cases hb1 : crB n i with
      | false =>
        have HCr0 := hide (crashIn_any wr w.heap.size (w.heap.size + 1) Di whoi HRi.out 0)
        have HS4 : Hid (StI { Di with fuse := max 0 0 } 30) := by
          have := HStI.out.mono (show i ≤ 30 by omega)
          exact ⟨this.one, this.chn, this.room, by show (0 : Int) ≤ max 0 0; decide, by show max (0 : Int) 0 ≤ 9223372036854775807; decide, this.s0, this.s1, this.st, this.born⟩
        have HDn : Hid (Di.down = false) := by show Di.down = false; rw [HJi.out.down, hb1]
        go_wp2_with (first
          | (go_at_call 9; refine Calls.mono HCr0.out ?_; rintro e w4 ⟨rfl, hR4, hb4⟩; have HR4 := hide hR4; have Hb4 := hide hb4; clear hR4 hb4)
          | (go_at_call 11; refine Calls.mono (write_x _ _ _ _ _ HR4.out HS4.out HDn.out rfl) ?_; rintro e w5 ⟨rfl, hb5, D5, who5, hR5, hS5, hd5, hf5⟩; have Hb5 := hide hb5; have HR5 := hide hR5; have HS5 := hide hS5; have Hd5 := hide (And.intro hd5 hf5); clear hb5 hR5 hS5 hd5 hf5)
          | (go_at_call 13; refine Calls.mono (sync_x _ _ _ _ _ HR5.out HS5.out Hd5.out.1 Hd5.out.2) ?_; rintro e w6 ⟨rfl, hb6⟩; have Hb6 := hide hb6; clear hb6)
          | (go_at_call 22; refine Calls.mono (HAw.out _) ?_; rintro e w7 ⟨rfl, hb7⟩; have Hb7 := hide hb7; clear hb7))
        go_ret
        have hA := ((Hbi.out.trans Hb4.out).trans Hb5.out).trans Hb6.out
        exact ⟨rfl, hA.trans (Hb7.out.mono hA.size)⟩
      | true =>
        have HDn : Hid (Di.down = true) := by show Di.down = true; rw [HJi.out.down, hb1]
        have HRd := hide (read_down wr w.heap.size (w.heap.size + 1) Di whoi HRi.out HDn.out nmF 0 1)
        have HSd := hide (sync_down wr w.heap.size (w.heap.size + 1) Di whoi HRi.out HDn.out nmF)
        have HLd := hide (len_down wr w.heap.size (w.heap.size + 1) Di whoi HRi.out HDn.out nmF)
        have HRs := hide (restart_x wr w.heap.size (w.heap.size + 1) Di whoi HRi.out (show i ≤ 25 by omega) HStI.out HDn.out)
        go_wp2_with (first
          | (go_at_call 7; refine Calls.mono HRd.out ?_; rintro e w4 ⟨rfl, rfl⟩)
          | (go_at_call 13; refine Calls.mono HSd.out ?_; rintro e w4 ⟨rfl, rfl⟩)
          | (go_at_call 15; refine Calls.mono HLd.out ?_; rintro e w4 ⟨rfl, rfl⟩)
          | (go_at_call 14; refine Calls.mono HRs.out ?_; rintro e w4 ⟨rfl, hb4, D4, who4, hR4, hS4, hd4, hf4⟩; have HR4 := hide hR4; have Hb4 := hide hb4; have HS4 := hide hS4; have Hd4 := hide (And.intro hd4 hf4); clear hR4 hb4 hS4 hd4 hf4 HSd)
          | (go_at_call 11; refine Calls.mono (write_x _ _ _ _ _ HR4.out HS4.out Hd4.out.1 Hd4.out.2) ?_; rintro e w5 ⟨rfl, hb5, D5, who5, hR5, hS5, hd5, hf5⟩; have Hb5 := hide hb5; have HR5 := hide hR5; have HS5 := hide hS5; have Hd5 := hide (And.intro hd5 hf5); clear hb5 hR5 hS5 hd5 hf5)
          | (go_at_call 13; refine Calls.mono (sync_x _ _ _ _ _ HR5.out HS5.out Hd5.out.1 Hd5.out.2) ?_; rintro e w6 ⟨rfl, hb6⟩; have Hb6 := hide hb6; clear hb6)
          | (go_at_call 22; refine Calls.mono (HAw.out _) ?_; rintro e w7 ⟨rfl, hb7⟩; have Hb7 := hide hb7; clear hb7))
        go_ret
        have hA := ((Hbi.out.trans Hb4.out).trans Hb5.out).trans Hb6.out
        exact ⟨rfl, hA.trans (Hb7.out.mono hA.size)⟩
end Go.Proofs.Ytefcconbpomedaa
