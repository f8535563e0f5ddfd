/- Package spill: find, of any text over any pages. -/
import Derived.Test.YthgclfhfipfknaaGreatPMH
namespace Go.Proofs.YthgclfhfipfknaaGreat
variable {sv : Value}
open Go.ChangeShapes Go.WideShapes Go.ChangeAt Go.RowKit Go.Maps Go.Shelf
set_option linter.unusedVariables false
attribute [local go_sem] Oper.semAt_some

set_option maxRecDepth 100000 in
set_option maxHeartbeats 4000000 in
theorem find_some (w : World) (t pm m : Nat) {P : Nat → List UInt8} {K : Nat} {wr : Bool} (h : Tr sv w t pm m P K wr) (s : ByteArray) (hs : s.size ≤ 140737488355328) (hok : rdOk s) :
    Calls Tryz.prog 37 #[.pointer (some ⟨t, 0, none⟩), .string s] w fun e w' => FdW w (rdSz s) e w' (fdR P m s) := by
  have HM := hide (fun X (hb : Below w.heap.size w X) => pmayRead_e X _ zs zs_length 4 (h.later hb).mayR)
  have HR := hide (fun X => read_ok X s hs hok)
  have hk := rdH_size s hok
  have hu := hok.2.1
  have hF := rdF_lt s
  unfold fdR
  clear hok hs
  generalize rdH s = k at *
  generalize rdU s = n at *
  generalize rdF s = F at *
  generalize rdSz s = z at *
  obtain ⟨L0, hL0⟩ : ∃ L0 : Nat, n - k.size = L0 := ⟨_, rfl⟩
  rw [hL0]
  obtain ⟨R, hR⟩ : ∃ R, fnd P m 4000 F L0 k.data.toList [] = R := ⟨_, rfl⟩
  rw [hR]
  have HI0 := hide (fun d p l c => sizeK d (z : Int) p l c)
  have HJ0 := hide (sizeS n k F)
  have HK0 := hide (kp_new w)
  have HB0 := hide (below_alloc w (.cells #[.string ⟨#[]⟩, .int .i64 0, .slice none 0 0] 79))
  have HBh := hide (fun X => behind_e X n k F (by omega) (by omega))
  rw [show (n : Int) - k.size = (L0 : Int) by omega] at HBh
  unfold stA at HBh
  have HWr := hide (fun (V : World) => bd_write V.heap.size V.heap.size [] k (V.alloc (.cells #[.pointer none, .slice none 0 0] 203)) (bd_new V) (by simp; omega) (by simp))
  have HSt := hide (fun B d X (hb : Lib.BuilderAt 203 5 B B (.pointer (some ⟨B, 0, none⟩)) (Lib.byteCells d) X) => Tryz.Builder_String_any B B d X (.inr hb) (Nat.le_of_lt hb.lt))
  have HT := hide h
  have hL4 : L0 ≤ 4000 := by omega
  have HR0 : Hid (k.data.toList.length + L0 ≤ 4000) := by show _ ≤ _; rw [bytes_size]; omega
  clear h hu
  refine (callsIn_wide (n := 9)).1 ?_
  refine callsIn_of_wp_marks Tryz.func37 rfl trivial ?_ rfl
  refine wpIn_wide.2 ?_
  simp only [Tryz.ntmps37, List.size_toArray, List.length_cons, List.length_nil, Nat.reduceAdd, Nat.reduceSub, Array.replicate_succ, Array.replicate_zero, List.push_toArray, List.append_toArray, List.nil_append, List.cons_append]
  go_wp2
  go_step3
  go_wp2_with (first
    | (go_at_call 98; (with_reducible refine Calls.mono (HM.out _ HB0.out) ?_); rintro e w4 ⟨rfl, hb⟩; rw [show unN 4 = 0 by rfl]; have HB4 := hide (below_trans HB0.out hb); have HK4 := hide (Blk.later HK0.out hb); clear hb)
    | (go_at_call 99; (with_reducible refine Calls.mono (HR.out _) ?_); rintro e w5 ⟨rfl, hb⟩; have HB5 := hide (below_trans (below_trans HB4.out hb) (below_alloc w5 (.cells #[.int .i64 0, .string ⟨#[]⟩, .int .i64 0] 90))); have HK5 := hide (Blk.later (Blk.later HK4.out hb) (below_alloc w5 (.cells #[.int .i64 0, .string ⟨#[]⟩, .int .i64 0] 90))); have HS5 := hide (st_new w5); have HZ5 := hide (show w.heap.size < w5.heap.size from Nat.lt_of_lt_of_le (Blk.later HK4.out hb).lt (Nat.le_refl _)); clear hb)
    | ((with_reducible refine atSt 90 ?_); refine wp_storeB (c := stA n k F) (z := stA 0 ⟨#[]⟩ 0) HJ0.out rfl (st_one _ _ _) HS5.out _ _ (by rfl) (by rfl) (by rfl) (by rfl) ?_; intro W6 hb6 ho6; have hb7 := Blk.later hb6 (below_alloc W6 (.cells #[.pointer none, .slice none 0 0] 203)); obtain ⟨s0, s1, s2⟩ := st_cells hb7; have HS7 := hide hb7; have HK7 := hide (Blk.later (Blk.only HK5.out ho6 (by have := HZ5.out; simp; omega)) (below_alloc W6 (.cells #[.pointer none, .slice none 0 0] 203))); have HB7 := hide (below_trans (below_only1 HB5.out ho6 (Nat.le_of_lt HZ5.out)) (below_alloc W6 (.cells #[.pointer none, .slice none 0 0] 203))); have HZ7 := hide hb6.lt; have HZ6 := hide (show w.heap.size < W6.heap.size from Nat.lt_trans HZ5.out hb6.lt); clear hb6 ho6 hb7)
    | (go_at_call 100; (with_reducible refine Calls.mono (HWr.out _) ?_); rintro e w8 ⟨rfl, hd, hb⟩; have hb8 := (hb.block _ HZ7.out).trans HS7.out; obtain ⟨s0', s1', s2'⟩ := st_cells hb8; have HS8 := hide hb8; have HD8 := hide hd; have HB8 := hide (below_up HB7.out hb (Nat.le_of_lt HZ6.out)); have HK8 := hide ((hb.block _ HZ6.out).trans HK7.out); clear hd hb8 s0 s1 s2))
  refine wp_mono (Q := FdM w P m t W6.heap.size z R L0 F k.data.toList) ?_ ?_
  · have HC8 := hide (show w8.drew.cell? ⟨w5.heap.size, 0, none⟩ = some (.int .i64 n) ∧ w8.drew.cell? ⟨w5.heap.size, 1, none⟩ = some (.string k) ∧ w8.drew.cell? ⟨w5.heap.size, 2, none⟩ = some (.int .i64 F) from ⟨s0', s1', s2'⟩)
    have HA8 := hide (cells3_later (below_alloc w8.drew (.cells #[.int .i64 0] 3)) HC8.out)
    have HN8 := hide (show w5.heap.size ≠ w8.heap.size from Nat.ne_of_lt (Blk.lt HS8.out))
    go_region_held3 (fun V => V.cell? ⟨w5.heap.size, 0, none⟩ = some (.int .i64 n) ∧ V.cell? ⟨w5.heap.size, 1, none⟩ = some (.string k) ∧ V.cell? ⟨w5.heap.size, 2, none⟩ = some (.int .i64 F)) (first | exact HC8.out | exact HA8.out | exact HC9.out | exact HA9.out | exact HD9.out) (first
      | (go_at_call 101; (with_reducible refine Calls.mono (HBh.out _) ?_); rintro e w9 ⟨rfl, hb⟩; have HC9 := hide (cells3_later hb HC8.out); have HA9 := hide (cells3_later (below_alloc w9 (.cells #[.int .i64 0] 3)) HC9.out); have HD9 := hide (cells3_later (below_alloc w9 (.cells #[.int .i64 (L0 : Int)] 3)) HC9.out); have HX := hide (fi_a (L0 : Int) hb); clear hb)
      | (go_at_call 101; (with_reducible refine Calls.mono (HBh.out _) ?_); rintro e w9 ⟨rfl, hb⟩; have HC9 := hide (cells3_later hb HA8.out); have hL := Blk.later (Blk.new w8.drew #[Value.int .i64 0] 3) hb; have c13 : w9.cell? ⟨w8.heap.size, 0, none⟩ = some (.int .i64 0) := hL.cell 0; have f13 : w9.frozen? ⟨w8.heap.size, 0, none⟩ = false := hL.frozen 0; have HA9 := hide (cells3_set HN8.out (.int .i64 L0) HC9.out); have HD9 := HA9; have HX := hide (fi_b (L0 : Int) hb); clear hb hL))
    all_goals
      go_wp2
      obtain ⟨hXb, e, he, hwe, hXe⟩ := HX.out
      clear HX HC9 HA9 HD9
      have hlt9 := Nat.lt_of_lt_of_le HD8.out.lt hwe
      refine ⟨rfl, e, e + 1, fd_ex (by rw [he]; rfl), ⟨fs_below HB8.out hXb, Blk.later HK8.out hXb, hXe, bd_later HD8.out hXb, World.ownsRow_nil _ _ _ _, (fun r hr => by cases hr), List.nodup_nil, HZ6.out, hlt9, Nat.lt_succ_self _, (by have h9 := hXe.lt; simp at h9 ⊢; omega)⟩, hF, HR0.out, by simp; omega, ⟨4000, hL4, hR⟩, fun _ => ⟨rfl, rfl, rfl⟩⟩
  · clear HD8 HB8 HK8 HS8 HS7 HK7 HB7 HZ7 HZ6 HZ5 HS5 HK5 HB5 HK4 HB4 HB0 HK0 HM HR HBh HWr HJ0 s0' s1' s2' HR0 hF hL0 hL4 hk hR
    generalize W6.heap.size = b at *
    rintro x a' W ⟨rfl, e, sz, ⟨u, rfl⟩, hh⟩
    have HH := hide hh
    clear hh
    simp only [fdA]
    go_wp2
    go_step3
    go_wp2
    refine fd_loop (t := t) (z := z) HH.out (by rfl) ?_ ?_
    · clear HH
      intro left nn d v G rs u wr hh
      simp only [fdA]
      by_cases hl : left = 0
      · subst hl
        have c13 := hh.st.lf.cell 0
        have HE : Hid (FdE w wr b e sz R 0 nn d v G rs) := by
          obtain ⟨f, hf, hr⟩ := hh.res
          rw [fnd_end] at hr
          exact ⟨hh.st, hh.lt, hh.le, .inr ⟨rfl, hr.symm⟩, fun _ => hh.dz⟩
        clear hh
        go_wp2
        exact ⟨rfl, _, _, _, _, _, _, HE.out, fd_ex rfl⟩
      · have c13 := hh.st.lf.cell 0
        have l0 : (0 : Int) < (left : Int) := by omega
        have HHh := hide hh
        have hT := HT.out.later hh.st.bel
        have HLn := hide hT.len
        clear hh
        by_cases hin : 1 ≤ nn ∧ nn ≤ m
        · have HPg := hide (page_e wr _ _ _ _ (PgK.inn hT hin.1 hin.2))
          have HK : Hid (∀ V, Calls Tryz.prog 103 #[.agg (bcl (P nn)).toArray] V fun e w' => e = .returned (.int .u8 (kindV (P nn) : Int)) ∧ Below V.heap.size V w') := fun V => kind_walk (P nn) (HLn.out nn) V
          have HC : Hid (∀ V, Calls Tryz.prog 104 #[.agg (bcl (P nn)).toArray] V fun e w' => e = .returned (.int .i64 (cntV (P nn) : Int)) ∧ Below V.heap.size V w') := fun V => count_walk (P nn) (HLn.out nn) V
          have HO := hide (fun V => cellsOf_e V left (by have := HHh.out.le; omega))
          have HE : Hid (∀ w', Below wr.heap.size wr w' → ¬ (2 ≤ nn ∧ nn ≤ m ∧ kindV (P nn) = 5 ∧ cntV (P nn) = cellsN left) → FdE w w' b e sz R left nn d v G rs) := fun w' hb hx => by
            obtain ⟨f, hf, hr⟩ := HHh.out.res
            rw [fnd_bad P m f nn left d G hl hx] at hr
            exact ⟨HHh.out.st.later hb, HHh.out.lt, HHh.out.le, .inl ⟨hl, hr.symm⟩, fun h => absurd h hl⟩
          have HLf := hide HHh.out.st.lf
          have Ha := hide hin
          have hbs : (Tryz.prog.info? 59).map (·.size) = some (bcl (P nn)).length := by rw [show (bcl (P nn)).length = 256 by rw [bcl, List.length_map]; exact HLn.out nn]; exact page_info
          have hba := page_arr
          clear hT
          go_wp2_with (first
            | (go_at_call 102; (with_reducible refine Calls.mono HPg.out ?_); rintro e' w4 ⟨rfl, hb⟩; have HB4 := hide (below_trans hb (below_alloc w4 (.cells (bc zs) 59))); have HN4 := hide (PAt.new w4 zs); have HS4 := hide hb.size; clear hb)
            | ((with_reducible refine atSt 59 ?_); refine wp_storeP (HLn.out nn) zs_length HN4.out _ _ (by rfl) (by rfl) (by rfl) (by rfl) ?_; intro W5 hp hb hk; have HB5 := hide (hb _ _ HB4.out HS4.out); have HP5 := hide hp; clear hp hb hk))
          have c5 : W5.cell? ⟨e, 0, none⟩ = some (.int .i64 (left : Int)) := (HLf.out.later HB5.out).cell 0
          by_cases h1 : nn = 1
          · subst h1
            go_region
            all_goals (try go_wp2)
            exact ⟨rfl, _, _, _, _, _, _, HE.out _ (below_dr HB5.out) (by omega), fd_ex rfl⟩
          · have n1 : ¬ (nn : Int) = 1 := by omega
            have n1b : ((nn : Int) == 1) = false := by simpa using n1
            have HPd : Hid (PAt W5.drew w4.heap.size (P nn)) := HP5.out
            have HS5 := hide (show W5.drew.rangeAt w4.heap.size 0 (bcl (P nn)) ∧ W5.drew.cell? ⟨e, 0, none⟩ = some (.int .i64 (left : Int)) from ⟨PAt.range HP5.out, c5⟩)
            have c5d : W5.drew.cell? ⟨e, 0, none⟩ = some (.int .i64 (left : Int)) := c5
            by_cases h5 : kindV (P nn) = 5
            · rw [show (kindV (P nn) : Int) = 5 by omega] at HK
              by_cases hc : cntV (P nn) = cellsN left
              · rw [hc] at HC
                refine wp_region_held_drew (S := fun V => V.rangeAt w4.heap.size 0 (bcl (P nn)) ∧ V.cell? ⟨e, 0, none⟩ = some (.int .i64 (left : Int))) (by kernel_rfl) HS5.out (fun hHeld => ?_)
                refine wpAnyH_take (i := 0) (oi := { dst := some 49, op := Op.move (Operand.tmp 15), type := 35, pos := "chain.go:41", after := #[], guard := none }) (v := .int .i64 0) rfl (by kernel_rfl) (by kernel_rfl) (by kernel_rfl) (fun _ _ _ h => h) (Or.inl ⟨by rfl, fun V hV => by (dsimp only at hV; go_simp)⟩) hHeld ?_
                try simp only [Act.put, List.setIfInBounds_toArray, List.set_cons_zero, List.set_cons_succ]
                refine wpAnyH_take (i := 1) (oi := { dst := some 50, op := Op.binOp BinOp.neq 35 (Operand.tmp 49) (Operand.const (Value.int IntKind.i64 0)) 35, type := 4, pos := "chain.go:41", after := #[{ on := 0, ground := Ground.data }], guard := none }) (v := .bool false) rfl (by kernel_rfl) (by kernel_rfl) (by kernel_rfl) (fun _ _ _ h => h) (Or.inl ⟨by rfl, fun V hV => by (dsimp only at hV; go_simp)⟩) hHeld ?_
                try simp only [Act.put, List.setIfInBounds_toArray, List.set_cons_zero, List.set_cons_succ]
                refine wpAnyH_take (i := 2) (oi := { dst := some 51, op := Op.move (Operand.tmp 50), type := 4, pos := "chain.go:41", after := #[{ on := 1, ground := Ground.data }], guard := none }) (v := .bool false) rfl (by kernel_rfl) (by kernel_rfl) (by kernel_rfl) (fun _ _ _ h => h) (Or.inl ⟨by rfl, fun V hV => by (dsimp only at hV; go_simp)⟩) hHeld ?_
                try simp only [Act.put, List.setIfInBounds_toArray, List.set_cons_zero, List.set_cons_succ]
                refine wpAnyH_take (i := 3) (oi := { dst := some 52, op := Op.move (Operand.tmp 12), type := 3, pos := "chain.go:41", after := #[{ on := 2, ground := Ground.guard }], guard := some (2, false) }) (v := .int .i64 (nn : Int)) rfl (by kernel_rfl) (by kernel_rfl) (by kernel_rfl) (fun _ _ _ h => h) (Or.inl ⟨by rfl, fun V hV => by (dsimp only at hV; go_simp)⟩) hHeld ?_
                try simp only [Act.put, List.setIfInBounds_toArray, List.set_cons_zero, List.set_cons_succ]
                refine wpAnyH_take (i := 4) (oi := { dst := some 53, op := Op.binOp BinOp.eql 3 (Operand.tmp 52) (Operand.const (Value.int IntKind.i64 1)) 3, type := 4, pos := "chain.go:41", after := #[{ on := 3, ground := Ground.data }, { on := 2, ground := Ground.guard }], guard := some (2, false) }) (v := .bool false) rfl (by kernel_rfl) (by kernel_rfl) (by kernel_rfl) (fun _ _ _ h => h) (Or.inl ⟨by rfl, fun V hV => by (dsimp only at hV; go_simp)⟩) hHeld ?_
                try simp only [Act.put, List.setIfInBounds_toArray, List.set_cons_zero, List.set_cons_succ]
                refine wpAnyH_take (i := 5) (oi := { dst := some 54, op := Op.pick (Operand.tmp 51) (Operand.const (Value.bool true)) (Operand.tmp 53), type := 4, pos := "chain.go:41", after := #[{ on := 2, ground := Ground.data }, { on := 4, ground := Ground.data }], guard := none }) (v := .bool false) rfl (by kernel_rfl) (by kernel_rfl) (by kernel_rfl) (fun _ _ _ h => h) (Or.inl ⟨by rfl, fun V hV => by (dsimp only at hV; go_simp)⟩) hHeld ?_
                try simp only [Act.put, List.setIfInBounds_toArray, List.set_cons_zero, List.set_cons_succ]
                refine wpAnyH_take (i := 6) (oi := { dst := some 55, op := Op.move (Operand.tmp 54), type := 4, pos := "chain.go:41", after := #[{ on := 5, ground := Ground.data }, { on := 2, ground := Ground.chain }], guard := none }) (v := .bool false) rfl (by kernel_rfl) (by kernel_rfl) (by kernel_rfl) (fun _ _ _ h => h) (Or.inl ⟨by rfl, fun V hV => by (dsimp only at hV; go_simp)⟩) hHeld ?_
                try simp only [Act.put, List.setIfInBounds_toArray, List.set_cons_zero, List.set_cons_succ]
                refine wpAnyH_take (i := 7) (oi := { dst := some 56, op := Op.load 59 (Operand.tmp 14), type := 59, pos := "chain.go:41", after := #[{ on := 6, ground := Ground.guard }], guard := some (6, false) }) (v := .agg (bcl (P nn)).toArray) rfl (by kernel_rfl) (by kernel_rfl) (by kernel_rfl) (fun _ _ _ h => h) (yieldsIf_load_mid (by rfl) _ _ rfl _ _ rfl _ _ (fun V hV => hV.1) hba rfl hbs) hHeld ?_
                try simp only [Act.put, List.setIfInBounds_toArray, List.set_cons_zero, List.set_cons_succ]
                refine wpAnyH_ready (rs := [8]) (by kernel_rfl) (by simp) ?_
                refine AllReadyH.cons rfl (fun KK hKK => ?_) AllReadyH.nil
                go_simp
                (go_at_call 103; (with_reducible refine Calls.mono (HK.out _) ?_); rintro e' w6 ⟨rfl, hb⟩; have HPe := hide (PAt.later HPd.out hb); have HS6 := hide (And.intro HPe.out.range (cell_later hb HS5.out.2)); have HB6 := hide (below_trans (below_dr HB5.out) hb); clear hb)
                go_wp2_with fail
                refine hKK.out _ _ HS6.out (fun hHeld => ?_)
                clear hKK KK
                try simp only [Act.put, List.setIfInBounds_toArray, List.set_cons_zero, List.set_cons_succ]
                refine wpAnyH_take (i := 9) (oi := { dst := some 58, op := Op.binOp BinOp.neq 210 (Operand.tmp 57) (Operand.const (Value.int IntKind.u8 5)) 210, type := 4, pos := "chain.go:41", after := #[{ on := 8, ground := Ground.data }, { on := 6, ground := Ground.guard }], guard := some (6, false) }) (v := .bool false) rfl (by kernel_rfl) (by kernel_rfl) (by kernel_rfl) (fun _ _ _ h => h) (Or.inl ⟨by rfl, fun V hV => by (dsimp only at hV; go_simp)⟩) hHeld ?_
                try simp only [Act.put, List.setIfInBounds_toArray, List.set_cons_zero, List.set_cons_succ]
                refine wpAnyH_take (i := 10) (oi := { dst := some 59, op := Op.pick (Operand.tmp 55) (Operand.const (Value.bool true)) (Operand.tmp 58), type := 4, pos := "chain.go:41", after := #[{ on := 6, ground := Ground.data }, { on := 9, ground := Ground.data }], guard := none }) (v := .bool false) rfl (by kernel_rfl) (by kernel_rfl) (by kernel_rfl) (fun _ _ _ h => h) (Or.inl ⟨by rfl, fun V hV => by (dsimp only at hV; go_simp)⟩) hHeld ?_
                try simp only [Act.put, List.setIfInBounds_toArray, List.set_cons_zero, List.set_cons_succ]
                refine wpAnyH_take (i := 11) (oi := { dst := some 60, op := Op.move (Operand.tmp 59), type := 4, pos := "chain.go:41", after := #[{ on := 10, ground := Ground.data }, { on := 8, ground := Ground.chain }], guard := none }) (v := .bool false) rfl (by kernel_rfl) (by kernel_rfl) (by kernel_rfl) (fun _ _ _ h => h) (Or.inl ⟨by rfl, fun V hV => by (dsimp only at hV; go_simp)⟩) hHeld ?_
                try simp only [Act.put, List.setIfInBounds_toArray, List.set_cons_zero, List.set_cons_succ]
                refine wpAnyH_take (i := 12) (oi := { dst := some 61, op := Op.load 59 (Operand.tmp 14), type := 59, pos := "chain.go:41", after := #[{ on := 11, ground := Ground.guard }], guard := some (11, false) }) (v := .agg (bcl (P nn)).toArray) rfl (by kernel_rfl) (by kernel_rfl) (by kernel_rfl) (fun _ _ _ h => h) (yieldsIf_load_mid (by rfl) _ _ rfl _ _ rfl _ _ (fun V hV => hV.1) hba rfl hbs) hHeld ?_
                try simp only [Act.put, List.setIfInBounds_toArray, List.set_cons_zero, List.set_cons_succ]
                refine wpAnyH_take (i := 14) (oi := { dst := some 63, op := Op.load 3 (Operand.tmp 13), type := 3, pos := "chain.go:41", after := #[{ on := 11, ground := Ground.guard }], guard := some (11, false) }) (v := .int .i64 (left : Int)) rfl (by kernel_rfl) (by kernel_rfl) (by kernel_rfl) (fun _ _ _ h => h) (Or.inl ⟨by rfl, fun V hV => by (dsimp only at hV; go_simp)⟩) hHeld ?_
                try simp only [Act.put, List.setIfInBounds_toArray, List.set_cons_zero, List.set_cons_succ]
                refine wpAnyH_ready (rs := [13]) (by kernel_rfl) (by simp) ?_
                refine AllReadyH.cons rfl (fun KK hKK => ?_) AllReadyH.nil
                go_simp
                (go_at_call 104; (with_reducible refine Calls.mono (HC.out _) ?_); rintro e' w7 ⟨rfl, hb⟩; have HPf := hide (PAt.later HPe.out hb); have HS7 := hide (And.intro HPf.out.range (cell_later hb HS6.out.2)); have HB7 := hide (below_trans HB6.out hb); clear hb)
                go_wp2_with fail
                refine hKK.out _ _ HS7.out (fun hHeld => ?_)
                clear hKK KK
                try simp only [Act.put, List.setIfInBounds_toArray, List.set_cons_zero, List.set_cons_succ]
                refine wpAnyH_ready (rs := [15]) (by kernel_rfl) (by simp) ?_
                refine AllReadyH.cons rfl (fun KK hKK => ?_) AllReadyH.nil
                go_simp
                (go_at_call 105; (with_reducible refine Calls.mono (HO.out _) ?_); rintro e' w8x ⟨rfl, rfl⟩)
                go_wp2_with fail
                refine hKK.out _ _ HS7.out (fun hHeld => ?_)
                clear hKK KK
                try simp only [Act.put, List.setIfInBounds_toArray, List.set_cons_zero, List.set_cons_succ]
                refine wpAnyH_take (i := 16) (oi := { dst := some 65, op := Op.binOp BinOp.neq 3 (Operand.tmp 62) (Operand.tmp 64) 3, type := 4, pos := "chain.go:41", after := #[{ on := 13, ground := Ground.data }, { on := 15, ground := Ground.data }, { on := 11, ground := Ground.guard }], guard := some (11, false) }) (v := .bool false) rfl (by kernel_rfl) (by kernel_rfl) (by kernel_rfl) (fun _ _ _ h => h) (Or.inl ⟨by rfl, fun V hV => by (dsimp only at hV; go_simp)⟩) hHeld ?_
                try simp only [Act.put, List.setIfInBounds_toArray, List.set_cons_zero, List.set_cons_succ]
                refine wpAnyH_take (i := 17) (oi := { dst := some 66, op := Op.pick (Operand.tmp 60) (Operand.const (Value.bool true)) (Operand.tmp 65), type := 4, pos := "chain.go:41", after := #[{ on := 11, ground := Ground.data }, { on := 16, ground := Ground.data }], guard := none }) (v := .bool false) rfl (by kernel_rfl) (by kernel_rfl) (by kernel_rfl) (fun _ _ _ h => h) (Or.inl ⟨by rfl, fun V hV => by (dsimp only at hV; go_simp)⟩) hHeld ?_
                try simp only [Act.put, List.setIfInBounds_toArray, List.set_cons_zero, List.set_cons_succ]
                refine wpAnyH_done (by kernel_rfl) ?_ _
                have HCf : Hid (∀ V, Calls Tryz.prog 106 #[.agg (bc (P nn))] V fun e w' => e = .returned (.func (.func 188) #[] #[.pointer (some ⟨V.heap.size, 0, none⟩)]) ∧ w' = V.alloc (.cells (bc (P nn)) 59)) := fun V => cells_fn (P nn) (HLn.out nn) V
                go_wp2_with (first
                  | ((with_reducible refine atLd 59 ?_); refine wp_loadP (HLn.out nn) HPf.out _ (by rfl) (by rfl) (by rfl) ?_)
                  | (go_at_call 106; (with_reducible refine Calls.mono (HCf.out _) ?_); rintro e' w9 ⟨rfl, rfl⟩))
                obtain ⟨c0, hc0, hc250, hS0, _⟩ := cells_facts (P nn) (HLn.out nn)
                have hcc : cellsN left = c0 := hc.symm.trans hc0
                have HSt9 := hide (cells_stopsP (P nn) (HLn.out nn) c0 hc0 hc250 (cellS (P nn)) hS0)
                have hB9 := below_trans HB7.out (below_alloc w7 (.cells (bc (P nn)) 59))
                have hi9 := HHh.out.st.later hB9
                have hp9 := PAt.later HPf.out (below_alloc w7 (.cells (bc (P nn)) 59))
                have hq9 := PAt.new w7 (P nn)
                have hz9 : w7.heap.size < (w7.alloc (.cells (bc (P nn)) 59)).heap.size := by simp
                have hpz : w4.heap.size < w7.heap.size := (Array.getElem?_eq_some_iff.1 HPf.out).1
                have hpw : wr.heap.size ≤ w4.heap.size := HS4.out
                have o1 := HHh.out.st.hb
                have o2 := HHh.out.st.he
                have o3 := HHh.out.st.hs
                have o4 := HHh.out.st.sz
                have hlt9 : ∀ r ∈ rs, r < (w7.alloc (.cells (bc (P nn)) 59)).heap.size := fun r hr => (Array.getElem?_eq_some_iff.1 (hi9.mrk r hr).2).1
                have HRes := hide HHh.out.res
                have hnn := HHh.out.lt
                have HDz := hide HHh.out.dz
                have hle := HHh.out.le
                have HLk := hide (fun V => link_walk (P nn) (HLn.out nn) V)
                have HG : Hid ((G.length + 1) * 8 ≤ 140737488355328) := by show _ ≤ _; have := HHh.out.len; omega
                have hGl := HHh.out.len
                have h5m : 2 ≤ nn ∧ nn ≤ m ∧ kindV (P nn) = 5 ∧ cntV (P nn) = cellsN left := ⟨by have := Ha.out; omega, Ha.out.2, h5, hc⟩
                have HLl := hide (HLn.out nn)
                clear HPf HPe HPd HS5 HS6 HS7 HB5 HB6 HB7 HP5 HN4 HS4 HB4 HK HC HO HE HPg HCf HHh HLf Ha hc0 hS0 c5 c5d hB9
                generalize w4.heap.size = pg at *
                generalize w7.heap.size = z7 at *
                generalize w7.alloc (.cells (bc (P nn)) 59) = W0 at *
                refine (wpIn_wide (n := 9)).1 ?_
                refine wpIn_rangeFunc_ownH rfl (by omega) (gf := 188) (lb := #[.pointer (some ⟨z7, 0, none⟩)]) rfl trivial (enters_of Tryz.func188 (by kernel_rfl) rfl)
                  (HSt9.out _ z7 (fun A B => B.heap[z7]? = A.heap[z7]?) (fun A B h => h) W0 hz9 hq9)
                  (fun h h' => h'.trans h)
                  (fun W l o o' hl ho _ _ => (grownBy_putObj' W l o').block _ (by have := (Array.getElem?_eq_some_iff.1 ho).1; omega) (fun e => by simp at e; omega)) (Below.refl _ _) (fun _ => rfl)
                  (FdJ w b e sz v G rs pg z7 (P nn) left d) (FdX w b e sz v G rs (P nn) left d) (fdJ_own w b e sz v G rs pg z7 (P nn) left d hlt9 (by omega)) (fun cd => fdX_own w b e sz v G rs (P nn) left d cd hlt9 (by omega)) ⟨left, d, rfl, hi9, hp9, hq9⟩
                  (fun x a' W => ∃ u', a' = fdA t w.heap.size b e z u' v nn [] ∧ u' 17 = .string (cellS (P nn) x.val)) (fun x a' s X Y row hs hg hr => hs) ?assign ?body ?done ?stop
                case assign =>
                  intro lp pre x W Kk hI hKk
                  have HKk := hide hKk
                  have HI := hide hI
                  clear hKk hI
                  simp only [encC]
                  gi_wp2
                  refine HKk.out _ _ (KeepsFrom.of_grownBy (grown_of_below (below_refl W)) (fun j e => by cases e)) rfl HI.out ?_
                  exact fd_ex17 rfl rfl
                case body =>
                  rintro lp pre x a' W hlp hr ⟨l', x', he, hi, hp, hq⟩ ⟨u', rfl, h17⟩ hlen
                  obtain ⟨e1, e2⟩ := eat_left (cellS (P nn)) left d _ he
                  rw [List.length_map] at e1
                  have c13 := hi.lf.cell 0
                  have hl'0 : l' ≠ 0 := by have := (cellsN_pos hl).2.1; omega
                  simp only [fdA]
                  rw [h17]
                  clear h17
                  by_cases hs : (cellS (P nn) x.val).size = min l' 60
                  · have HNx := hide (fun w1 => fdJ_next (w1 := w1) x he hi hp hq hs ⟨by omega, by omega, by omega, by omega⟩)
                    have HW := hide (bd_write2 b b x' (cellS (P nn) x.val) W hi.bd (by omega) (by have := hi.sz; omega))
                    have HLf := hide hi.lf
                    generalize cellS (P nn) x.val = sx at *
                    have m1 : (sx.size : Int) = min (l' : Int) 60 := by omega
                    have m1b : ((sx.size : Int) == min (l' : Int) 60) = true := by simpa using m1
                    have m2 : IntKind.i64.wrap ((l' : Int) - (sx.size : Int)) = ((l' - sx.size : Nat) : Int) := by rw [IntKind.wrap_i64]; omega
                    have HV := hide (show (l' : Int) - (sx.size : Int) = ((l' - sx.size : Nat) : Int) by omega)
                    clear hi hp hq he e1 e2 hs m1
                    gi_wp2_with (first
                      | (first | refine ⟨trivial, ?_⟩ | refine ⟨trivial, (fun h => absurd h (by decide)), ?_⟩); gi_at_call 100; refine CallsIn.mono (CallsIn.inRound _ (callsIn_wide.2 HW.out)) ?_; rintro e' w1 ⟨rfl, hbd, hb1, hf1⟩; have HN1 := hide (HNx.out w1 hbd hb1 hf1); have hl1 := hf1.blk HLf.out (by decide) (by simp; omega); have c131 : w1.cell? ⟨e, 0, none⟩ = some (.int .i64 (l' : Int)) := hl1.cell 0; have f131 : w1.frozen? ⟨e, 0, none⟩ = false := hl1.frozen 0; clear hbd hb1 hf1 hl1)
                    first
                      | exact ⟨HN1.out.2.1 _, HN1.out.2.2, HN1.out.1⟩
                      | (rw [HV.out]; exact ⟨HN1.out.2.1 _, HN1.out.2.2, HN1.out.1⟩)
                  · have HX : Hid (FdX w b e sz v G rs (P nn) left d (.exit 0) (pre ++ [x]) W) := ⟨rfl, by rw [List.map_append, List.map_cons, List.map_nil, eat_snoc, he]; simp only [eatS, Option.bind_some, if_neg hs], l', x', hl'0, by omega, hi⟩
                    generalize cellS (P nn) x.val = sx at *
                    have m1 : ¬ (sx.size : Int) = min (l' : Int) 60 := by omega
                    have m1b : ((sx.size : Int) == min (l' : Int) 60) = false := by simpa using m1
                    clear hi hp hq he e1 e2 hs
                    gi_wp2
                    exact ⟨KeepsFrom.refl _ _, HX.out⟩
                case done =>
                  rintro D xs W hD rfl ⟨l', x', he, hi, hp, _⟩ hK0
                  rw [fin_range, ← hcc] at he
                  obtain ⟨e1, e2⟩ := eat_left (cellS (P nn)) left d _ he
                  rw [List.length_range] at e1
                  have hcp := (cellsN_pos hl)
                  have hm := hi.mark (r := D) (by omega) (fun hh => by have := hlt9 D hh; omega) hK0
                  obtain ⟨p6, k6, rfl⟩ := own_form hm.own
                  have HM := hide (hm.later (below_alloc W (.cells #[.int .i64 (nn : Int)] 3)))
                  have HPm := hide (hp.later (below_alloc W (.cells #[.int .i64 (nn : Int)] 3)))
                  have hRs : ∃ f, l' ≤ f ∧ fnd P m f (linkV (P nn)) l' x' (G ++ [nn]) = R := by
                    obtain ⟨f, hf, hr⟩ := HRes.out
                    exact ⟨f - 1, by omega, by rw [← hr]; exact (fnd_step P m f nn left l' d x' G hl hf h5m he).symm⟩
                  have hx0 : x' ≠ [] := by rintro rfl; simp at e2; omega
                  have hlk := linkV_lt (P nn)
                  have m3 : IntKind.i64.wrap (linkV (P nn) : Int) = (linkV (P nn) : Int) := by rw [IntKind.wrap_i64]; omega
                  have HFin : Hid (∀ v2 w11 w12, w11.ownsRow sz 3 1 v2 (G.length + 1) (inL G ++ [.int .i64 (nn : Int)]) → (W.alloc (.cells #[.int .i64 (nn : Int)] 3)).grownBy w11 (Value.slice p6 G.length k6).ownBlock → Below w11.heap.size w11 w12 → l' < left ∧ FdH w w12 P m b e sz R l' (linkV (P nn)) x' v2 (G ++ [nn]) (D :: rs)) := fun v2 w11 w12 ho hg hb => ⟨by omega, (HM.out.app ho hg).later hb, hlk, by omega, by simp; omega, hRs, fun h => absurd h hx0⟩
                  clear hi hp hm hK0 he hRs
                  go_wp2_with (first
                    | (at_builtin; refine wp_appI2 HM.out.own (m := 1) (news := [.int .i64 (nn : Int)]) rfl (one_cell W _ _) (one_int _) HG.out HM.out.sz _ _ (by rfl) (by rfl) (by rfl) (by rfl) ?_; intro v2 w11 ho hg; obtain ⟨p7, k7, rfl⟩ := own_form ho; have HP11 := hide (HM.out.appP hg HPm.out); have HF11 := hide (fun w12 => HFin.out _ w11 w12 ho hg); clear ho hg)
                    | ((with_reducible refine atLd 59 ?_); refine wp_loadP HLl.out HP11.out _ (by rfl) (by rfl) (by rfl) ?_)
                    | (go_at_call 107; (with_reducible refine Calls.mono (HLk.out _) ?_); rintro e' w12 ⟨rfl, hb12⟩; have HF12 := hide (HF11.out w12 hb12); clear hb12))
                  exact ⟨l', linkV (P nn), x', _, G ++ [nn], D :: rs, HF12.out.1, HF12.out.2, fd_ex rfl⟩
                case stop =>
                  rintro D cd pre W hD ⟨r, hpr⟩ ⟨rfl, he, l', x', hl0, hxl, hi⟩ hK0
                  have hRn : R = none := by
                    obtain ⟨f, hf, hr⟩ := HRes.out
                    have he2 := eat_none (cellS (P nn)) (pre.map (·.val)) (r.map (·.val)) left d he
                    rw [← List.map_append, hpr, fin_range, ← hcc] at he2
                    rw [fnd_eatN P m f nn left d G hl he2] at hr
                    exact hr.symm
                  have hm := hi.mark (r := D) (by omega) (fun hh => by have := hlt9 D hh; omega) hK0
                  have HM := hide hm
                  clear hi hK0 hm
                  gi_wp2
                  exact ⟨rfl, l', nn, x', v, G, D :: rs, ⟨HM.out, by omega, hxl, .inl ⟨hl0, hRn⟩, fun h => absurd h hl0⟩, fd_ex rfl⟩
              · have kc : ¬ (cntV (P nn) : Int) = (cellsN left : Int) := by omega
                have kcb : ((cntV (P nn) : Int) == (cellsN left : Int)) = false := by simpa using kc
                have kcc : ((cntV (P nn) : Int) != (cellsN left : Int)) = true := by simpa using kc
                refine wp_region_held_drew (S := fun V => V.rangeAt w4.heap.size 0 (bcl (P nn)) ∧ V.cell? ⟨e, 0, none⟩ = some (.int .i64 (left : Int))) (by kernel_rfl) HS5.out (fun hHeld => ?_)
                refine wpAnyH_take (i := 0) (oi := { dst := some 49, op := Op.move (Operand.tmp 15), type := 35, pos := "chain.go:41", after := #[], guard := none }) (v := .int .i64 0) rfl (by kernel_rfl) (by kernel_rfl) (by kernel_rfl) (fun _ _ _ h => h) (Or.inl ⟨by rfl, fun V hV => by (dsimp only at hV; go_simp)⟩) hHeld ?_
                try simp only [Act.put, List.setIfInBounds_toArray, List.set_cons_zero, List.set_cons_succ]
                refine wpAnyH_take (i := 1) (oi := { dst := some 50, op := Op.binOp BinOp.neq 35 (Operand.tmp 49) (Operand.const (Value.int IntKind.i64 0)) 35, type := 4, pos := "chain.go:41", after := #[{ on := 0, ground := Ground.data }], guard := none }) (v := .bool false) rfl (by kernel_rfl) (by kernel_rfl) (by kernel_rfl) (fun _ _ _ h => h) (Or.inl ⟨by rfl, fun V hV => by (dsimp only at hV; go_simp)⟩) hHeld ?_
                try simp only [Act.put, List.setIfInBounds_toArray, List.set_cons_zero, List.set_cons_succ]
                refine wpAnyH_take (i := 2) (oi := { dst := some 51, op := Op.move (Operand.tmp 50), type := 4, pos := "chain.go:41", after := #[{ on := 1, ground := Ground.data }], guard := none }) (v := .bool false) rfl (by kernel_rfl) (by kernel_rfl) (by kernel_rfl) (fun _ _ _ h => h) (Or.inl ⟨by rfl, fun V hV => by (dsimp only at hV; go_simp)⟩) hHeld ?_
                try simp only [Act.put, List.setIfInBounds_toArray, List.set_cons_zero, List.set_cons_succ]
                refine wpAnyH_take (i := 3) (oi := { dst := some 52, op := Op.move (Operand.tmp 12), type := 3, pos := "chain.go:41", after := #[{ on := 2, ground := Ground.guard }], guard := some (2, false) }) (v := .int .i64 (nn : Int)) rfl (by kernel_rfl) (by kernel_rfl) (by kernel_rfl) (fun _ _ _ h => h) (Or.inl ⟨by rfl, fun V hV => by (dsimp only at hV; go_simp)⟩) hHeld ?_
                try simp only [Act.put, List.setIfInBounds_toArray, List.set_cons_zero, List.set_cons_succ]
                refine wpAnyH_take (i := 4) (oi := { dst := some 53, op := Op.binOp BinOp.eql 3 (Operand.tmp 52) (Operand.const (Value.int IntKind.i64 1)) 3, type := 4, pos := "chain.go:41", after := #[{ on := 3, ground := Ground.data }, { on := 2, ground := Ground.guard }], guard := some (2, false) }) (v := .bool false) rfl (by kernel_rfl) (by kernel_rfl) (by kernel_rfl) (fun _ _ _ h => h) (Or.inl ⟨by rfl, fun V hV => by (dsimp only at hV; go_simp)⟩) hHeld ?_
                try simp only [Act.put, List.setIfInBounds_toArray, List.set_cons_zero, List.set_cons_succ]
                refine wpAnyH_take (i := 5) (oi := { dst := some 54, op := Op.pick (Operand.tmp 51) (Operand.const (Value.bool true)) (Operand.tmp 53), type := 4, pos := "chain.go:41", after := #[{ on := 2, ground := Ground.data }, { on := 4, ground := Ground.data }], guard := none }) (v := .bool false) rfl (by kernel_rfl) (by kernel_rfl) (by kernel_rfl) (fun _ _ _ h => h) (Or.inl ⟨by rfl, fun V hV => by (dsimp only at hV; go_simp)⟩) hHeld ?_
                try simp only [Act.put, List.setIfInBounds_toArray, List.set_cons_zero, List.set_cons_succ]
                refine wpAnyH_take (i := 6) (oi := { dst := some 55, op := Op.move (Operand.tmp 54), type := 4, pos := "chain.go:41", after := #[{ on := 5, ground := Ground.data }, { on := 2, ground := Ground.chain }], guard := none }) (v := .bool false) rfl (by kernel_rfl) (by kernel_rfl) (by kernel_rfl) (fun _ _ _ h => h) (Or.inl ⟨by rfl, fun V hV => by (dsimp only at hV; go_simp)⟩) hHeld ?_
                try simp only [Act.put, List.setIfInBounds_toArray, List.set_cons_zero, List.set_cons_succ]
                refine wpAnyH_take (i := 7) (oi := { dst := some 56, op := Op.load 59 (Operand.tmp 14), type := 59, pos := "chain.go:41", after := #[{ on := 6, ground := Ground.guard }], guard := some (6, false) }) (v := .agg (bcl (P nn)).toArray) rfl (by kernel_rfl) (by kernel_rfl) (by kernel_rfl) (fun _ _ _ h => h) (yieldsIf_load_mid (by rfl) _ _ rfl _ _ rfl _ _ (fun V hV => hV.1) hba rfl hbs) hHeld ?_
                try simp only [Act.put, List.setIfInBounds_toArray, List.set_cons_zero, List.set_cons_succ]
                refine wpAnyH_ready (rs := [8]) (by kernel_rfl) (by simp) ?_
                refine AllReadyH.cons rfl (fun KK hKK => ?_) AllReadyH.nil
                go_simp
                (go_at_call 103; (with_reducible refine Calls.mono (HK.out _) ?_); rintro e' w6 ⟨rfl, hb⟩; have HPe := hide (PAt.later HPd.out hb); have HS6 := hide (And.intro HPe.out.range (cell_later hb HS5.out.2)); have HB6 := hide (below_trans (below_dr HB5.out) hb); clear hb)
                go_wp2_with fail
                refine hKK.out _ _ HS6.out (fun hHeld => ?_)
                clear hKK KK
                try simp only [Act.put, List.setIfInBounds_toArray, List.set_cons_zero, List.set_cons_succ]
                refine wpAnyH_take (i := 9) (oi := { dst := some 58, op := Op.binOp BinOp.neq 210 (Operand.tmp 57) (Operand.const (Value.int IntKind.u8 5)) 210, type := 4, pos := "chain.go:41", after := #[{ on := 8, ground := Ground.data }, { on := 6, ground := Ground.guard }], guard := some (6, false) }) (v := .bool false) rfl (by kernel_rfl) (by kernel_rfl) (by kernel_rfl) (fun _ _ _ h => h) (Or.inl ⟨by rfl, fun V hV => by (dsimp only at hV; go_simp)⟩) hHeld ?_
                try simp only [Act.put, List.setIfInBounds_toArray, List.set_cons_zero, List.set_cons_succ]
                refine wpAnyH_take (i := 10) (oi := { dst := some 59, op := Op.pick (Operand.tmp 55) (Operand.const (Value.bool true)) (Operand.tmp 58), type := 4, pos := "chain.go:41", after := #[{ on := 6, ground := Ground.data }, { on := 9, ground := Ground.data }], guard := none }) (v := .bool false) rfl (by kernel_rfl) (by kernel_rfl) (by kernel_rfl) (fun _ _ _ h => h) (Or.inl ⟨by rfl, fun V hV => by (dsimp only at hV; go_simp)⟩) hHeld ?_
                try simp only [Act.put, List.setIfInBounds_toArray, List.set_cons_zero, List.set_cons_succ]
                refine wpAnyH_take (i := 11) (oi := { dst := some 60, op := Op.move (Operand.tmp 59), type := 4, pos := "chain.go:41", after := #[{ on := 10, ground := Ground.data }, { on := 8, ground := Ground.chain }], guard := none }) (v := .bool false) rfl (by kernel_rfl) (by kernel_rfl) (by kernel_rfl) (fun _ _ _ h => h) (Or.inl ⟨by rfl, fun V hV => by (dsimp only at hV; go_simp)⟩) hHeld ?_
                try simp only [Act.put, List.setIfInBounds_toArray, List.set_cons_zero, List.set_cons_succ]
                refine wpAnyH_take (i := 12) (oi := { dst := some 61, op := Op.load 59 (Operand.tmp 14), type := 59, pos := "chain.go:41", after := #[{ on := 11, ground := Ground.guard }], guard := some (11, false) }) (v := .agg (bcl (P nn)).toArray) rfl (by kernel_rfl) (by kernel_rfl) (by kernel_rfl) (fun _ _ _ h => h) (yieldsIf_load_mid (by rfl) _ _ rfl _ _ rfl _ _ (fun V hV => hV.1) hba rfl hbs) hHeld ?_
                try simp only [Act.put, List.setIfInBounds_toArray, List.set_cons_zero, List.set_cons_succ]
                refine wpAnyH_take (i := 14) (oi := { dst := some 63, op := Op.load 3 (Operand.tmp 13), type := 3, pos := "chain.go:41", after := #[{ on := 11, ground := Ground.guard }], guard := some (11, false) }) (v := .int .i64 (left : Int)) rfl (by kernel_rfl) (by kernel_rfl) (by kernel_rfl) (fun _ _ _ h => h) (Or.inl ⟨by rfl, fun V hV => by (dsimp only at hV; go_simp)⟩) hHeld ?_
                try simp only [Act.put, List.setIfInBounds_toArray, List.set_cons_zero, List.set_cons_succ]
                refine wpAnyH_ready (rs := [13]) (by kernel_rfl) (by simp) ?_
                refine AllReadyH.cons rfl (fun KK hKK => ?_) AllReadyH.nil
                go_simp
                (go_at_call 104; (with_reducible refine Calls.mono (HC.out _) ?_); rintro e' w7 ⟨rfl, hb⟩; have HPf := hide (PAt.later HPe.out hb); have HS7 := hide (And.intro HPf.out.range (cell_later hb HS6.out.2)); have HB7 := hide (below_trans HB6.out hb); clear hb)
                go_wp2_with fail
                refine hKK.out _ _ HS7.out (fun hHeld => ?_)
                clear hKK KK
                try simp only [Act.put, List.setIfInBounds_toArray, List.set_cons_zero, List.set_cons_succ]
                refine wpAnyH_ready (rs := [15]) (by kernel_rfl) (by simp) ?_
                refine AllReadyH.cons rfl (fun KK hKK => ?_) AllReadyH.nil
                go_simp
                (go_at_call 105; (with_reducible refine Calls.mono (HO.out _) ?_); rintro e' w8x ⟨rfl, rfl⟩)
                go_wp2_with fail
                refine hKK.out _ _ HS7.out (fun hHeld => ?_)
                clear hKK KK
                try simp only [Act.put, List.setIfInBounds_toArray, List.set_cons_zero, List.set_cons_succ]
                refine wpAnyH_take (i := 16) (oi := { dst := some 65, op := Op.binOp BinOp.neq 3 (Operand.tmp 62) (Operand.tmp 64) 3, type := 4, pos := "chain.go:41", after := #[{ on := 13, ground := Ground.data }, { on := 15, ground := Ground.data }, { on := 11, ground := Ground.guard }], guard := some (11, false) }) (v := .bool true) rfl (by kernel_rfl) (by kernel_rfl) (by kernel_rfl) (fun _ _ _ h => h) (Or.inl ⟨by rfl, fun V hV => by (dsimp only at hV; go_simp)⟩) hHeld ?_
                try simp only [Act.put, List.setIfInBounds_toArray, List.set_cons_zero, List.set_cons_succ]
                refine wpAnyH_take (i := 17) (oi := { dst := some 66, op := Op.pick (Operand.tmp 60) (Operand.const (Value.bool true)) (Operand.tmp 65), type := 4, pos := "chain.go:41", after := #[{ on := 11, ground := Ground.data }, { on := 16, ground := Ground.data }], guard := none }) (v := .bool true) rfl (by kernel_rfl) (by kernel_rfl) (by kernel_rfl) (fun _ _ _ h => h) (Or.inl ⟨by rfl, fun V hV => by (dsimp only at hV; go_simp)⟩) hHeld ?_
                try simp only [Act.put, List.setIfInBounds_toArray, List.set_cons_zero, List.set_cons_succ]
                refine wpAnyH_done (by kernel_rfl) ?_ _
                go_wp2
                exact ⟨rfl, _, _, _, _, _, _, HE.out _ HB7.out (fun hh => hc hh.2.2.2), fd_ex rfl⟩
            · have k5 : ¬ (kindV (P nn) : Int) = 5 := by omega
              have k5b : ((kindV (P nn) : Int) == 5) = false := by simpa using k5
              have k5c : ((kindV (P nn) : Int) != 5) = true := by simpa using k5
              refine wp_region_held_drew (S := fun V => V.rangeAt w4.heap.size 0 (bcl (P nn)) ∧ V.cell? ⟨e, 0, none⟩ = some (.int .i64 (left : Int))) (by kernel_rfl) HS5.out (fun hHeld => ?_)
              refine wpAnyH_take (i := 0) (oi := { dst := some 49, op := Op.move (Operand.tmp 15), type := 35, pos := "chain.go:41", after := #[], guard := none }) (v := .int .i64 0) rfl (by kernel_rfl) (by kernel_rfl) (by kernel_rfl) (fun _ _ _ h => h) (Or.inl ⟨by rfl, fun V hV => by (dsimp only at hV; go_simp)⟩) hHeld ?_
              try simp only [Act.put, List.setIfInBounds_toArray, List.set_cons_zero, List.set_cons_succ]
              refine wpAnyH_take (i := 1) (oi := { dst := some 50, op := Op.binOp BinOp.neq 35 (Operand.tmp 49) (Operand.const (Value.int IntKind.i64 0)) 35, type := 4, pos := "chain.go:41", after := #[{ on := 0, ground := Ground.data }], guard := none }) (v := .bool false) rfl (by kernel_rfl) (by kernel_rfl) (by kernel_rfl) (fun _ _ _ h => h) (Or.inl ⟨by rfl, fun V hV => by (dsimp only at hV; go_simp)⟩) hHeld ?_
              try simp only [Act.put, List.setIfInBounds_toArray, List.set_cons_zero, List.set_cons_succ]
              refine wpAnyH_take (i := 2) (oi := { dst := some 51, op := Op.move (Operand.tmp 50), type := 4, pos := "chain.go:41", after := #[{ on := 1, ground := Ground.data }], guard := none }) (v := .bool false) rfl (by kernel_rfl) (by kernel_rfl) (by kernel_rfl) (fun _ _ _ h => h) (Or.inl ⟨by rfl, fun V hV => by (dsimp only at hV; go_simp)⟩) hHeld ?_
              try simp only [Act.put, List.setIfInBounds_toArray, List.set_cons_zero, List.set_cons_succ]
              refine wpAnyH_take (i := 3) (oi := { dst := some 52, op := Op.move (Operand.tmp 12), type := 3, pos := "chain.go:41", after := #[{ on := 2, ground := Ground.guard }], guard := some (2, false) }) (v := .int .i64 (nn : Int)) rfl (by kernel_rfl) (by kernel_rfl) (by kernel_rfl) (fun _ _ _ h => h) (Or.inl ⟨by rfl, fun V hV => by (dsimp only at hV; go_simp)⟩) hHeld ?_
              try simp only [Act.put, List.setIfInBounds_toArray, List.set_cons_zero, List.set_cons_succ]
              refine wpAnyH_take (i := 4) (oi := { dst := some 53, op := Op.binOp BinOp.eql 3 (Operand.tmp 52) (Operand.const (Value.int IntKind.i64 1)) 3, type := 4, pos := "chain.go:41", after := #[{ on := 3, ground := Ground.data }, { on := 2, ground := Ground.guard }], guard := some (2, false) }) (v := .bool false) rfl (by kernel_rfl) (by kernel_rfl) (by kernel_rfl) (fun _ _ _ h => h) (Or.inl ⟨by rfl, fun V hV => by (dsimp only at hV; go_simp)⟩) hHeld ?_
              try simp only [Act.put, List.setIfInBounds_toArray, List.set_cons_zero, List.set_cons_succ]
              refine wpAnyH_take (i := 5) (oi := { dst := some 54, op := Op.pick (Operand.tmp 51) (Operand.const (Value.bool true)) (Operand.tmp 53), type := 4, pos := "chain.go:41", after := #[{ on := 2, ground := Ground.data }, { on := 4, ground := Ground.data }], guard := none }) (v := .bool false) rfl (by kernel_rfl) (by kernel_rfl) (by kernel_rfl) (fun _ _ _ h => h) (Or.inl ⟨by rfl, fun V hV => by (dsimp only at hV; go_simp)⟩) hHeld ?_
              try simp only [Act.put, List.setIfInBounds_toArray, List.set_cons_zero, List.set_cons_succ]
              refine wpAnyH_take (i := 6) (oi := { dst := some 55, op := Op.move (Operand.tmp 54), type := 4, pos := "chain.go:41", after := #[{ on := 5, ground := Ground.data }, { on := 2, ground := Ground.chain }], guard := none }) (v := .bool false) rfl (by kernel_rfl) (by kernel_rfl) (by kernel_rfl) (fun _ _ _ h => h) (Or.inl ⟨by rfl, fun V hV => by (dsimp only at hV; go_simp)⟩) hHeld ?_
              try simp only [Act.put, List.setIfInBounds_toArray, List.set_cons_zero, List.set_cons_succ]
              refine wpAnyH_take (i := 7) (oi := { dst := some 56, op := Op.load 59 (Operand.tmp 14), type := 59, pos := "chain.go:41", after := #[{ on := 6, ground := Ground.guard }], guard := some (6, false) }) (v := .agg (bcl (P nn)).toArray) rfl (by kernel_rfl) (by kernel_rfl) (by kernel_rfl) (fun _ _ _ h => h) (yieldsIf_load_mid (by rfl) _ _ rfl _ _ rfl _ _ (fun V hV => hV.1) hba rfl hbs) hHeld ?_
              try simp only [Act.put, List.setIfInBounds_toArray, List.set_cons_zero, List.set_cons_succ]
              refine wpAnyH_ready (rs := [8]) (by kernel_rfl) (by simp) ?_
              refine AllReadyH.cons rfl (fun KK hKK => ?_) AllReadyH.nil
              go_simp
              (go_at_call 103; (with_reducible refine Calls.mono (HK.out _) ?_); rintro e' w6 ⟨rfl, hb⟩; have HPe := hide (PAt.later HPd.out hb); have HS6 := hide (And.intro HPe.out.range (cell_later hb HS5.out.2)); have HB6 := hide (below_trans (below_dr HB5.out) hb); clear hb)
              go_wp2_with fail
              refine hKK.out _ _ HS6.out (fun hHeld => ?_)
              clear hKK KK
              try simp only [Act.put, List.setIfInBounds_toArray, List.set_cons_zero, List.set_cons_succ]
              refine wpAnyH_take (i := 9) (oi := { dst := some 58, op := Op.binOp BinOp.neq 210 (Operand.tmp 57) (Operand.const (Value.int IntKind.u8 5)) 210, type := 4, pos := "chain.go:41", after := #[{ on := 8, ground := Ground.data }, { on := 6, ground := Ground.guard }], guard := some (6, false) }) (v := .bool true) rfl (by kernel_rfl) (by kernel_rfl) (by kernel_rfl) (fun _ _ _ h => h) (Or.inl ⟨by rfl, fun V hV => by (dsimp only at hV; go_simp)⟩) hHeld ?_
              try simp only [Act.put, List.setIfInBounds_toArray, List.set_cons_zero, List.set_cons_succ]
              refine wpAnyH_take (i := 10) (oi := { dst := some 59, op := Op.pick (Operand.tmp 55) (Operand.const (Value.bool true)) (Operand.tmp 58), type := 4, pos := "chain.go:41", after := #[{ on := 6, ground := Ground.data }, { on := 9, ground := Ground.data }], guard := none }) (v := .bool true) rfl (by kernel_rfl) (by kernel_rfl) (by kernel_rfl) (fun _ _ _ h => h) (Or.inl ⟨by rfl, fun V hV => by (dsimp only at hV; go_simp)⟩) hHeld ?_
              try simp only [Act.put, List.setIfInBounds_toArray, List.set_cons_zero, List.set_cons_succ]
              refine wpAnyH_take (i := 11) (oi := { dst := some 60, op := Op.move (Operand.tmp 59), type := 4, pos := "chain.go:41", after := #[{ on := 10, ground := Ground.data }, { on := 8, ground := Ground.chain }], guard := none }) (v := .bool true) rfl (by kernel_rfl) (by kernel_rfl) (by kernel_rfl) (fun _ _ _ h => h) (Or.inl ⟨by rfl, fun V hV => by (dsimp only at hV; go_simp)⟩) hHeld ?_
              try simp only [Act.put, List.setIfInBounds_toArray, List.set_cons_zero, List.set_cons_succ]
              refine wpAnyH_take (i := 12) (oi := { dst := some 61, op := Op.load 59 (Operand.tmp 14), type := 59, pos := "chain.go:41", after := #[{ on := 11, ground := Ground.guard }], guard := some (11, false) }) (v := undef) rfl (by kernel_rfl) (by kernel_rfl) (by kernel_rfl) (fun _ _ _ h => h) (Or.inr ⟨by rfl, rfl⟩) hHeld ?_
              try simp only [Act.put, List.setIfInBounds_toArray, List.set_cons_zero, List.set_cons_succ]
              refine wpAnyH_take (i := 13) (oi := { dst := some 62, op := Op.call { callee := Callee.value (Operand.func 104), args := #[Operand.tmp 61], argTypes := #[59] }, type := 3, pos := "chain.go:41", after := #[{ on := 12, ground := Ground.data }, { on := 11, ground := Ground.chain }, { on := 11, ground := Ground.guard }], guard := some (11, false) }) (v := undef) rfl (by kernel_rfl) (by kernel_rfl) (by kernel_rfl) (fun _ _ _ h => h) (Or.inr ⟨by rfl, rfl⟩) hHeld ?_
              try simp only [Act.put, List.setIfInBounds_toArray, List.set_cons_zero, List.set_cons_succ]
              refine wpAnyH_take (i := 14) (oi := { dst := some 63, op := Op.load 3 (Operand.tmp 13), type := 3, pos := "chain.go:41", after := #[{ on := 11, ground := Ground.guard }], guard := some (11, false) }) (v := undef) rfl (by kernel_rfl) (by kernel_rfl) (by kernel_rfl) (fun _ _ _ h => h) (Or.inr ⟨by rfl, rfl⟩) hHeld ?_
              try simp only [Act.put, List.setIfInBounds_toArray, List.set_cons_zero, List.set_cons_succ]
              refine wpAnyH_take (i := 15) (oi := { dst := some 64, op := Op.call { callee := Callee.value (Operand.func 105), args := #[Operand.tmp 63], argTypes := #[3] }, type := 3, pos := "chain.go:41", after := #[{ on := 14, ground := Ground.data }, { on := 13, ground := Ground.chain }, { on := 11, ground := Ground.guard }], guard := some (11, false) }) (v := undef) rfl (by kernel_rfl) (by kernel_rfl) (by kernel_rfl) (fun _ _ _ h => h) (Or.inr ⟨by rfl, rfl⟩) hHeld ?_
              try simp only [Act.put, List.setIfInBounds_toArray, List.set_cons_zero, List.set_cons_succ]
              refine wpAnyH_take (i := 16) (oi := { dst := some 65, op := Op.binOp BinOp.neq 3 (Operand.tmp 62) (Operand.tmp 64) 3, type := 4, pos := "chain.go:41", after := #[{ on := 13, ground := Ground.data }, { on := 15, ground := Ground.data }, { on := 11, ground := Ground.guard }], guard := some (11, false) }) (v := undef) rfl (by kernel_rfl) (by kernel_rfl) (by kernel_rfl) (fun _ _ _ h => h) (Or.inr ⟨by rfl, rfl⟩) hHeld ?_
              try simp only [Act.put, List.setIfInBounds_toArray, List.set_cons_zero, List.set_cons_succ]
              refine wpAnyH_take (i := 17) (oi := { dst := some 66, op := Op.pick (Operand.tmp 60) (Operand.const (Value.bool true)) (Operand.tmp 65), type := 4, pos := "chain.go:41", after := #[{ on := 11, ground := Ground.data }, { on := 16, ground := Ground.data }], guard := none }) (v := .bool true) rfl (by kernel_rfl) (by kernel_rfl) (by kernel_rfl) (fun _ _ _ h => h) (Or.inl ⟨by rfl, fun V hV => by (dsimp only at hV; go_simp)⟩) hHeld ?_
              try simp only [Act.put, List.setIfInBounds_toArray, List.set_cons_zero, List.set_cons_succ]
              refine wpAnyH_done (by kernel_rfl) ?_ _
              go_wp2
              exact ⟨rfl, _, _, _, _, _, _, HE.out _ HB6.out (fun hh => h5 hh.2.2.1), fd_ex rfl⟩
        · have HPg := hide (page_e wr _ _ _ _ (PgK.out (k := (nn : Int)) hT (by omega)))
          have HE : Hid (∀ w', Below wr.heap.size wr w' → FdE w w' b e sz R left nn d v G rs) := fun w' hb => by
            obtain ⟨f, hf, hr⟩ := HHh.out.res
            rw [fnd_bad P m f nn left d G hl (by omega)] at hr
            exact ⟨HHh.out.st.later hb, HHh.out.lt, HHh.out.le, .inl ⟨hl, hr.symm⟩, fun h => absurd h hl⟩
          clear HHh hT
          go_wp2_with (first
            | (go_at_call 102; (with_reducible refine Calls.mono HPg.out ?_); rintro e' w4 ⟨rfl, hb⟩; have HB4 := hide (below_trans hb (below_alloc w4 (.cells (bc zs) 59))); have HN4 := hide (PAt.new w4 zs); have HS4 := hide hb.size; clear hb)
            | ((with_reducible refine atSt 59 ?_); refine wp_storeP zs_length zs_length HN4.out _ _ (by rfl) (by rfl) (by rfl) (by rfl) ?_; intro W5 hp hb hk; have HB5 := hide (hb _ _ HB4.out HS4.out); clear hp hb hk))
          go_region
          all_goals (try go_wp2)
          exact ⟨rfl, _, _, _, _, _, _, HE.out _ (below_dr HB5.out), fd_ex rfl⟩
    · clear HH
      intro left nn d v G rs u wr hh
      simp only [fdA]
      have c13 := hh.st.lf.cell 0
      obtain ⟨p6, k6, rfl⟩ := own_form hh.st.own
      have hR := hh.res
      have HS := hide hh.st
      by_cases hb : left ≠ 0 ∨ nn ≠ 0
      · have hR0 : R = none := by
          rcases hR with ⟨_, h⟩ | ⟨h0, h⟩
          · exact h
          · rw [h, if_neg (by omega)]
        subst hR0
        have HI1 := hide (sizeK ⟨#[]⟩ 0 none 0 0)
        have HEnd : Hid (∀ W12 (tm : Array Value), Blk W12 w.heap.size (kpA ⟨#[]⟩ 0 none 0 0) 79 → Only [w.heap.size] wr W12 → tm.getD 4 undef = .pointer (some ⟨w.heap.size, 0, none⟩) → tm.getD 5 undef = .int .i64 8 → LeavesInM Fence.wide 9 Tryz.prog Tryz.f37 tm (fun e w' => FdW w z e w' none) (mks rs) .returning W12) := fun W12 tm hk ho h4 h5 => by
          refine leaves_marks sz rs W12 HS.out.nd (fun r hr => ⟨(HS.out.mrk r hr).1, ho.blk (HS.out.mrk r hr).2 (by have h1 := (HS.out.mrk r hr).1; have h2 := HS.out.hb; have h3 := HS.out.he; have h6 := HS.out.hs; simp; omega)⟩) (fun W' hb hc => ?_)
          exact ⟨_, res_blk2 (c := kpA ⟨#[]⟩ 0 none 0 0) HI1.out uK Tryz.results37 h4 h5 (hc _ _ _ _ hk), rfl, (below_only1 HS.out.bel ho (Nat.le_refl _)).trans (hb.mono (by have h2 := HS.out.hb; have h3 := HS.out.he; have h6 := HS.out.hs; omega))⟩
        by_cases hl : left = 0
        · subst hl
          have l1 : ¬ (nn : Int) = 0 := by omega
          clear hh hR
          go_wp2_with (first
            | ((with_reducible refine atSt 79 ?_); refine wp_storeB (c := kpA ⟨#[]⟩ 0 none 0 0) (z := kpA ⟨#[]⟩ 0 none 0 0) HI1.out rfl (kp_one _ _ _ _ _) HS.out.kp _ _ (by rfl) (by rfl) (by rfl) (by rfl) ?_; intro W12 hb12 ho12; have HK12 := hide hb12; have HO12 := hide ho12; clear hb12 ho12))
          rw [Exit.noGoto_ret]
          exact HEnd.out W12 _ HK12.out HO12.out (by rfl) (by rfl)
        · have l1 : (0 : Int) < (left : Int) := by omega
          clear hh hR
          go_wp2_with (first
            | ((with_reducible refine atSt 79 ?_); refine wp_storeB (c := kpA ⟨#[]⟩ 0 none 0 0) (z := kpA ⟨#[]⟩ 0 none 0 0) HI1.out rfl (kp_one _ _ _ _ _) HS.out.kp _ _ (by rfl) (by rfl) (by rfl) (by rfl) ?_; intro W12 hb12 ho12; have HK12 := hide hb12; have HO12 := hide ho12; clear hb12 ho12))
          rw [Exit.noGoto_ret]
          exact HEnd.out W12 _ HK12.out HO12.out (by rfl) (by rfl)
      · obtain ⟨rfl, rfl⟩ : left = 0 ∧ nn = 0 := by omega
        have hR0 : R = some (d, G) := by
          rcases hR with ⟨h, _⟩ | ⟨h0, h⟩
          · exact absurd rfl h
          · rw [h, if_pos rfl]
        subst hR0
        have HI1 := hide (sizeK ⟨d.toArray⟩ (z : Int) p6 G.length k6)
        have hdz := hh.dz rfl
        have HKs : Hid (∀ W11, Below b wr W11 → Blk W11 w.heap.size (kpA ⟨#[]⟩ 0 none 0 0) 79) := fun W11 hb => (hb.block _ HS.out.hb).trans HS.out.kp
        have HLt : Hid (w.heap.size < sz) := by show _ < _; have h2 := HS.out.hb; have h3 := HS.out.he; have h6 := HS.out.hs; omega
        have HStr : Hid (Calls Tryz.prog 108 #[.pointer (some ⟨b, 0, none⟩)] wr fun e w' => e = .returned (.string ⟨d.toArray⟩) ∧ Below b wr w' ∧ (d = [] ∨ Fr 5 [] wr w')) := by
          by_cases hd : d = []
          · exact (HSt.out b d wr hh.st.bd).mono fun e w' h => ⟨h.1, h.2, .inl hd⟩
          · exact (bd_string b b _ d wr hh.st.bd hd).mono fun e w' h => ⟨h.1, h.2.1, .inr h.2.2⟩
        have HEnd : Hid (∀ W11 W12 (tm : Array Value), Below b wr W11 → (d = [] ∨ Fr 5 [] wr W11) → Blk W12 w.heap.size (kpA ⟨d.toArray⟩ (z : Int) p6 G.length k6) 79 → Only [w.heap.size] W11 W12 → tm.getD 4 undef = .pointer (some ⟨w.heap.size, 0, none⟩) → tm.getD 5 undef = .int .i64 0 → LeavesInM Fence.wide 9 Tryz.prog Tryz.f37 tm (fun e w' => FdW w z e w' (some (d, G))) (mks rs) .returning W12) := fun W11 W12 tm hb hf hk ho h4 h5 => by
          have hbw : Below w.heap.size w W12 := below_only1 (HS.out.bel.trans (hb.mono (Nat.le_of_lt HS.out.hb))) ho (Nat.le_refl _)
          have hne : ∀ r, sz ≤ r → r ∉ [w.heap.size] := fun r hr => by have := HLt.out; simp; omega
          by_cases hd : d = []
          · obtain ⟨rfl, rfl, hv⟩ := hdz hd
            cases hv
            refine leaves_marks sz [] W12 List.nodup_nil (fun r hr => by cases hr) (fun W' hb' hc => ?_)
            exact ⟨_, res_blk2 (c := kpA ⟨d.toArray⟩ (z : Int) none 0 0) HI1.out uK Tryz.results37 h4 h5 (hc _ _ _ _ hk), _, _, rfl, World.ownsRow_nil _ _ _ _, hbw.trans (hb'.mono (Nat.le_of_lt HLt.out))⟩
          · have hf := hf.resolve_left hd
            refine leaves_marks sz rs W12 HS.out.nd (fun r hr => ⟨(HS.out.mrk r hr).1, ho.blk (hf.other (HS.out.mrk r hr).2 rfl (by simp)) (hne r (HS.out.mrk r hr).1)⟩) (fun W' hb' hc => ?_)
            refine ⟨_, res_blk2 (c := kpA ⟨d.toArray⟩ (z : Int) p6 G.length k6) HI1.out uK Tryz.results37 h4 h5 (hc _ _ _ _ hk), _, _, rfl, own_base (own_same HS.out.own (fun g cs fz hg hge => ?_)) (Nat.le_of_lt HLt.out), hbw.trans (hb'.mono (Nat.le_of_lt HLt.out))⟩
            have h1 := hf.block g (Array.getElem?_eq_some_iff.1 hg).1 (by simp) (fun cs' fz' e' => by rw [hg] at e'; injection e' with e1; injection e1 with _ e2; exact absurd e2 (by decide))
            rw [hc g _ _ _ (ho.blk (h1.trans hg) (hne g hge)), hg]
        clear hh hR hdz
        go_wp2_with (first
          | (go_at_call 108; (with_reducible refine Calls.mono HStr.out ?_); rintro e' w11 ⟨rfl, hb11, hf11⟩; have HB11 := hide hb11; have HF11 := hide hf11; clear hb11 hf11)
          | ((with_reducible refine atSt 79 ?_); refine wp_storeB (c := kpA ⟨d.toArray⟩ (z : Int) p6 G.length k6) (z := kpA ⟨#[]⟩ 0 none 0 0) HI1.out rfl (kp_one _ _ _ _ _) (HKs.out _ HB11.out) _ _ (by rfl) (by rfl) (by rfl) (by rfl) ?_; intro W12 hb12 ho12; have HK12 := hide hb12; have HO12 := hide ho12; clear hb12 ho12))
        rw [Exit.noGoto_ret]
        exact HEnd.out _ W12 _ HB11.out HF11.out HK12.out HO12.out (by rfl) (by rfl)
end Go.Proofs.YthgclfhfipfknaaGreat
