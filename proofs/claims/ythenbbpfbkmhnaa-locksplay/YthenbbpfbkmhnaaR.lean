/- The script in memory; the walk of LocksExclude. -/
import Derived.Test.YthenbbpfbkmhnaaJ
import Derived.Test.YthenbbpfbkmhnaaM
import Derived.Test.YthenbbpfbkmhnaaP
namespace Go.Proofs.Ythenbbpfbkmhnaa
open Go.ChangeShapes Go.WideShapes Go.ChangeAt Go.RowKit
set_option linter.unusedVariables false

/-- A step. -/
structure OpV where
  d : Int
  a : Int
  c : Int
  l : Int
def OpV.cells (x : OpV) : List Value := [.int .i64 x.d, .int .i64 x.a, .int .i64 x.c, .int .i64 x.l]
/-- The script, handed in. -/
def OpP (w : World) (p : Option Addr) (n : Nat) (X : Nat → OpV) : Prop := 0 < n → ∃ g o, p = some ⟨g, o, none⟩ ∧ ∀ i, i < n → w.rangeAt g (o + i * 4) (X i).cells
theorem OpP.later {w w' : World} {p : Option Addr} {n : Nat} {X : Nat → OpV} (h : OpP w p n X) (hb : Below w.heap.size w w') : OpP w' p n X := fun h0 => by
  obtain ⟨g, o, hp, hc⟩ := h h0
  exact ⟨g, o, hp, fun i hi j v hv => cell_later hb (hc i hi j v hv)⟩
theorem info32 : (Try.prog.info? 32).map (·.size) = some 4 := by kernel_rfl
theorem u32 : ∃ d, Try.prog.underlying 32 = some d ∧ d.isRow = true := ⟨_, Try.underlying32, rfl⟩
theorem wp_load32 {ops : Array Oper} {rest : List Oper} {o : Oper} {a : Act} {Q : Exit → Act → World → Prop} {w : World} {g k : Nat} {X : OpV} (hg : w.rangeAt g k X.cells) (x : Operand)
    (hgd : o.guard = none) (ho : o.op = .load 32 x) (hx : a.eval x = .pointer (some ⟨g, k, none⟩)) (hk : wpList Try.prog ops Q rest (a.put o.dst (.agg X.cells.toArray)) w) : wpList Try.prog ops Q (o :: rest) a w := by
  obtain ⟨d, hd, hr⟩ := u32
  exact wpList_load_mid hgd 32 x ho g k hx X.cells d hg hd hr info32 hk
theorem wp_store32 {ops : Array Oper} {rest : List Oper} {o : Oper} {a : Act} {Q : Exit → Act → World → Prop} {w : World} {g : Nat} {X X0 : OpV} (hg : Blk w g X0.cells.toArray 32) (x y : Operand)
    (hgd : o.guard = none) (ho : o.op = .store 32 x y) (hx : a.eval x = .pointer (some ⟨g, 0, none⟩)) (hy : a.eval y = .agg X.cells.toArray)
    (hk : ∀ W', Blk W' g X.cells.toArray 32 → Only [g] w W' → wpList Try.prog ops Q rest (a.put o.dst undef) W') : wpList Try.prog ops Q (o :: rest) a w :=
  wpList_store_row hgd 32 x y ho g X.cells.toArray hx hy 32 X0.cells.toArray hg (show _ = some 4 from info32) (by simp [OpV.cells]) (all_oneCell_toArray (by intro v hv; simp [OpV.cells] at hv; rcases hv with rfl | rfl | rfl | rfl <;> rfl))
    (hk _ (setRow_heap w g _ _ _ _ hg) ⟨rfl, rfl, rfl, by simp [World.setRow], fun k _ hk => by simp only [World.setRow]; rw [Array.getElem?_modify, if_neg (fun e => hk (by simp [e]))]⟩)
theorem at32L {P : Program} {ops : Array Oper} {Q : Exit → Act → World → Prop} {d : Option Tmp} {x : Operand} {ty : TypeId} {pos : String} {af : Array Edge} {gd : Option (Nat × Bool)} {rest : List Oper} {a : Act} {w : World} (h : wpList P ops Q ({ dst := d, op := .load 32 x, type := ty, pos := pos, after := af, guard := gd } :: rest) a w) : wpList P ops Q ({ dst := d, op := .load 32 x, type := ty, pos := pos, after := af, guard := gd } :: rest) a w := h
theorem at32S {P : Program} {ops : Array Oper} {Q : Exit → Act → World → Prop} {d : Option Tmp} {x y : Operand} {ty : TypeId} {pos : String} {af : Array Edge} {gd : Option (Nat × Bool)} {rest : List Oper} {a : Act} {w : World} (h : wpList P ops Q ({ dst := d, op := .store 32 x y, type := ty, pos := pos, after := af, guard := gd } :: rest) a w) : wpList P ops Q ({ dst := d, op := .store 32 x y, type := ty, pos := pos, after := af, guard := gd } :: rest) a w := h
def op0 : OpV := ⟨0, 0, 0, 0⟩
theorem op_new (w : World) : Blk (w.alloc (.cells #[.int .i64 0, .int .i64 0, .int .i64 0, .int .i64 0] 32)) w.heap.size op0.cells.toArray 32 := Blk.new w _ _

/-- What Take or Drop answers, and what is held then. -/
def exE (L : List Int) (x : OpV) : Int := if x.d = 1 then askE x.c x.l else tkE L x.c x.l
def exH (L : List Int) (x : OpV) : List Int := if x.d = 1 then drH L x.c x.l else tkH L x.c x.l
theorem ex_good {L : List Int} (h : Good L) (x : OpV) : Good (exH L x) := by unfold exH; split; exact h.drop _ _; exact h.take _ _
theorem ex_same {L : List Int} {x : OpV} (h : exE L x ≠ 0) : exH L x = L := by
  unfold exE at h; unfold exH
  split
  · next e => rw [if_pos e] at h; exact dr_same h
  · next e => rw [if_neg e] at h; exact tk_same h
theorem ex_other {L : List Int} {x : OpV} (h8 : L.length = 8) {o : Nat} (h : (o : Int) ≠ x.c) : gt (exH L x) o = gt L o := by
  unfold exH
  split
  · exact dr_other h8 h
  · exact tk_other h8 h
theorem holders_n (w : World) (g : Nat) (L : List Int) (h8 : L.length = 8) (hb : TB w g L) (l : Int) (hl : okL l = true) (N : Nat) (hN : N = (hol L l 8).length) : Calls Try.prog 14 #[.pointer (some ⟨g, 0, none⟩), .int .i64 l] w fun e w' =>
    (∃ p cap, e = .returned (.slice p N cap)) ∧ TB w' g L ∧ Only [] w w' := by
  refine (holders_out w g L h8 hb l hl N hN 0 (Nat.zero_le _)).mono ?_
  rintro e w' ⟨⟨p, cap, rfl, h⟩, ho⟩
  exact ⟨⟨p, cap, rfl⟩, ho.blk hb (by simp), ho⟩

set_option maxHeartbeats 4000000 in
set_option maxRecDepth 20000 in
theorem exclude_walk (w : World) (p : Option Addr) (len cap : Nat) (X : Nat → OpV) (hp : OpP w p len X) (c l : Int) :
    Calls Try.prog 4 #[.slice p len cap, .int .i64 c, .int .i64 l] w fun e w' => e = .returned (.bool true) ∧ Below w.heap.size w w' := by
  have HP := hide hp
  have HAw := hide awake_any
  have HNew := hide new_any
  clear hp
  by_cases hlen : 200 < len
  · have l1 : (200 : Int) < (len : Int) := by omega
    go_enter Try.func4, Try.ntmps4
    go_wp2_with (go_at_call 5; with_reducible refine Calls.mono (HAw.out _) ?_; rintro e w4 ⟨rfl, ho⟩; have HO := hide ho; clear ho)
    go_ret
    exact ⟨rfl, HO.out.below (Nat.le_refl _) (by simp)⟩
  · have l1 : ¬ (200 : Int) < (len : Int) := by omega
    have HLn := hide hlen
    clear hlen
    go_enter Try.func4, Try.ntmps4
    go_wp2_with (go_at_call 6; with_reducible refine Calls.mono (HNew.out _) ?_; rintro e w4 ⟨rfl, hb, ho⟩; have HO := hide ho; have HB := hide hb; clear ho hb HNew)
    go_loopw [8] (fun iv wr => ∃ (k : Nat) (L : List Int), k ≤ len ∧ iv = .int .i64 (k : Int) ∧ Good L ∧ TB wr w.heap.size L ∧ Below w.heap.size w wr) (fun iv _ => len - (intOf iv).toNat)
    case atStart => exact ⟨0, h0, Nat.zero_le _, rfl, Good.start, HB.out, HO.out.below (Nat.le_refl _) (by simp)⟩
    case round =>
      obtain ⟨k, L, hk, rfl, hG, hB, hbl⟩ := hrel
      have HG := hide hG
      have HT := hide hB
      have HBl := hide hbl
      clear hG hB hbl
      by_cases hlt : k < len
      · obtain ⟨g, o, rfl, hc⟩ := (HP.out.later HBl.out) (by omega)
        have HR := hide (hc k hlt)
        have l2 : (k : Int) < (len : Int) := by omega
        have l0 : (0 : Int) ≤ (k : Int) := by omega
        have hw1 : IntKind.i64.wrap ((k : Int) + 1) = (k : Int) + 1 := by have := HLn.out; rw [IntKind.wrap_i64]; omega
        have HK := hide hlt
        have HCo := hide (fun W (hb : TB W w.heap.size L) => copy_some W w.heap.size L HG.out.len hb)
        have HE1 := hide (fun h => ex_same (L := L) (x := X k) h)
        have HE2 := hide (fun (o : Nat) h => ex_other (L := L) (x := X k) HG.out.len (o := o) h)
        have HG' := hide (ex_good HG.out (X k))
        clear hc
        by_cases hd : (X k).d = 1
        · have HEx : Hid (∀ W, TB W w.heap.size L → Calls Try.prog 9 #[.pointer (some ⟨w.heap.size, 0, none⟩), .int .i64 (X k).c, .int .i64 (X k).l] W fun e w' => e = .returned (.int .i64 (exE L (X k))) ∧ TB w' w.heap.size (exH L (X k)) ∧ Only [w.heap.size] W w') := fun W hb => by
            unfold exE exH
            rw [if_pos hd, if_pos hd]
            exact drop_some W w.heap.size L HG.out.len hb _ _
          obtain ⟨E, hE⟩ : ∃ E, E = exE L (X k) := ⟨_, rfl⟩
          obtain ⟨L', hL'⟩ : ∃ L', L' = exH L (X k) := ⟨_, rfl⟩
          obtain ⟨C, hC⟩ : ∃ C, C = (X k).c := ⟨_, rfl⟩
          rw [← hE, ← hL', ← hC] at HEx
          rw [← hE, ← hL'] at HE1
          rw [← hL', ← hC] at HE2
          rw [← hL'] at HG'
          have HC := hide hC
          have HD := hide hd
          clear hE hL' hC hd
          go_wp2_with (first
            | ((with_reducible refine at32L ?_); refine wp_load32 HR.out _ (by rfl) (by rfl) (by rfl) ?_)
            | ((with_reducible refine at32S ?_); refine wp_store32 (op_new wr) _ _ (by rfl) (by rfl) (by rfl) (by rfl) ?_; intro W5 hN5 hO5; have HN5 := hide hN5; have HO5 := hide ((Only.alloc wr _ []).andThen hO5 (fun j hj => .inr (by simp at hj; omega))); have HT5 := hide (Blk.later HT.out HO5.out (by simp)); clear hN5 hO5)
            | (go_at_call 11; with_reducible refine Calls.mono (HCo.out _ HT5.out) ?_; rintro e w6 ⟨rfl, hb6, ho6⟩; have HW6 := hide hb6; have HT6 := hide (Blk.later HT5.out ho6 (by simp)); have HN6 := hide (Blk.later HN5.out ho6 (by simp)); have HO6 := hide (HO5.out.trans ho6); have HS6 := hide (Nat.lt_of_lt_of_le HN5.out.lt ho6.size); have HS5 := hide HN5.out.lt; have HS4 := hide HT.out.lt; have cx0 := HN6.out.cell 0; have cx2 := HN6.out.cell 2; have cx3 := HN6.out.cell 3; simp [OpV.cells] at cx0 cx2 cx3; rw [HD.out] at cx0; rw [← HC.out] at cx2; clear hb6 ho6 HN5 HT5 HO5)
            | (go_at_call 9; with_reducible refine Calls.mono (HEx.out _ HT6.out) ?_; rintro e w7 ⟨rfl, hb7, ho7⟩; have HT7 := hide hb7; have HW7 := hide (Blk.later HW6.out ho7 (by have := HS5.out; have := HS4.out; simp; omega)); have HN7 := hide (Blk.later HN6.out ho7 (by have := HS4.out; simp; omega)); have HO7 := hide ho7; have cy2 := HN7.out.cell 2; simp [OpV.cells] at cy2; rw [← HC.out] at cy2; clear hb7 ho7 HN6 HW6 HT6 cx0 cx2 cx3))
          go_loopw [12] (fun iv wq => ∃ o : Nat, o ≤ 8 ∧ iv = .int .i64 (o : Int) ∧ wq = w7) (fun iv _ => 8 - (intOf iv).toNat)
          case atStart => exact ⟨0, Nat.zero_le _, rfl, rfl⟩
          case round =>
            obtain ⟨o, ho, rfl, rfl⟩ := hrel
            by_cases hlt : o < 8
            · have l1 : (o : Int) < 8 := by omega
              have l0 : (0 : Int) ≤ (o : Int) := by omega
              have hw1 : IntKind.i64.wrap ((o : Int) + 1) = (o : Int) + 1 := by rw [IntKind.wrap_i64]; omega
              have K1 := hide (has_in _ w.heap.size L' HG'.out.len HT7.out o hlt)
              have K2 := hide (has_in _ W5.heap.size L HG.out.len HW7.out o hlt)
              have b9 : (gt L o != gt L o) = false := by simp
              by_cases hE : E = 0
              · subst hE
                by_cases hC : C = (o : Int)
                · subst hC
                  go_wp2
                  refine ⟨⟨o + 1, hlt, rfl, by trivial⟩, ?_⟩
                  simp only [intOf]; omega
                · rw [HE2.out o (fun h => hC h.symm)] at K1
                  have b1 : ((o : Int) != C) = true := by simpa using fun h : (o : Int) = C => hC h.symm
                  clear hC
                  go_wp2_with (first
                    | (go_at_call 13; with_reducible refine Calls.mono K1.out ?_; rintro e w8 ⟨rfl, rfl⟩)
                    | (go_at_call 13; with_reducible refine Calls.mono K2.out ?_; rintro e w8 ⟨rfl, rfl⟩))
                  refine ⟨⟨o + 1, hlt, rfl, by trivial⟩, ?_⟩
                  simp only [intOf]; omega
              · rw [HE1.out hE] at K1
                have b0 : (E != 0) = true := by simpa using hE
                by_cases hC : C = (o : Int)
                · subst hC
                  clear hE
                  go_wp2_with (first
                    | (go_at_call 13; with_reducible refine Calls.mono K1.out ?_; rintro e w8 ⟨rfl, rfl⟩)
                    | (go_at_call 13; with_reducible refine Calls.mono K2.out ?_; rintro e w8 ⟨rfl, rfl⟩))
                  refine ⟨⟨o + 1, hlt, rfl, by trivial⟩, ?_⟩
                  simp only [intOf]; omega
                · have b1 : ((o : Int) != C) = true := by simpa using fun h : (o : Int) = C => hC h.symm
                  clear hC hE
                  go_wp2_with (first
                    | (go_at_call 13; with_reducible refine Calls.mono K1.out ?_; rintro e w8 ⟨rfl, rfl⟩)
                    | (go_at_call 13; with_reducible refine Calls.mono K2.out ?_; rintro e w8 ⟨rfl, rfl⟩))
                  refine ⟨⟨o + 1, hlt, rfl, by trivial⟩, ?_⟩
                  simp only [intOf]; omega
            · obtain rfl : o = 8 := by omega
              clear HW7 HN7 cy2
              obtain ⟨N2, hN2⟩ : ∃ N, N = (hol L' 2 8).length := ⟨_, rfl⟩
              obtain ⟨N3, hN3⟩ : ∃ N, N = (hol L' 3 8).length := ⟨_, rfl⟩
              obtain ⟨N1, hN1⟩ : ∃ N, N = (hol L' 1 8).length := ⟨_, rfl⟩
              have J2 := hide (fun W hb => holders_n W w.heap.size L' HG'.out.len hb 2 (by decide) N2 hN2)
              have J3 := hide (fun W hb => holders_n W w.heap.size L' HG'.out.len hb 3 (by decide) N3 hN3)
              have J1 := hide (fun W hb => holders_n W w.heap.size L' HG'.out.len hb 1 (by decide) N1 hN1)
              have J0 := hide (fun W hb => holders_n W w.heap.size L' HG'.out.len hb 0 (by decide) 8 HG'.out.zero.symm)
              have n2 : ¬ (1 : Int) < (N2 : Int) := by have := HG'.out.two; omega
              have hn3 := hide (show N3 = 1 → N1 = 1 from fun h => by rw [hN1]; exact HG'.out.three (by omega))
              clear hN1 hN2 hN3
              by_cases h3 : N3 = 1
              · obtain rfl := hn3.out h3
                subst h3
                go_wp2_with (first
                  | (go_at_call 14; with_reducible refine Calls.mono (J2.out _ HT7.out) ?_; rintro e y1 ⟨⟨q1, k1, rfl⟩, hb, ho⟩; have HY1 := hide hb; have HZ1 := hide ho; clear hb ho J2)
                  | (go_at_call 14; with_reducible refine Calls.mono (J3.out _ HY1.out) ?_; rintro e y2 ⟨⟨q2, k2, rfl⟩, hb, ho⟩; have HY2 := hide hb; have HZ2 := hide ho; clear hb ho J3)
                  | (go_at_call 14; with_reducible refine Calls.mono (J1.out _ HY2.out) ?_; rintro e y3 ⟨⟨q3, k3, rfl⟩, hb, ho⟩; have HY3 := hide hb; have HZ3 := hide ho; clear hb ho J1)
                  | (go_at_call 14; with_reducible refine Calls.mono (J0.out _ HY3.out) ?_; rintro e y4 ⟨⟨q4, k4, rfl⟩, hb, ho⟩; have HY4 := hide hb; have HZ4 := hide ho; clear hb ho J0))
                refine ⟨⟨k + 1, L', HK.out, rfl, HG'.out, HY4.out, ?_⟩, ?_⟩
                · exact (HBl.out.trans ((HO6.out.below HBl.out.size (by simp)).trans (HO7.out.below (Nat.le_trans HBl.out.size HO6.out.size) (by simp)))).trans ((((HZ1.out.trans HZ2.out).trans HZ3.out).trans HZ4.out).below (Nat.le_of_lt HT7.out.lt) (by simp))
                · simp only [intOf]; have := HK.out; omega
              · have b3 : ((N3 : Int) == 1) = false := by simp; omega
                have n3 : ¬ (N3 : Int) = 1 := by omega
                clear h3
                go_wp2_with (first
                  | (go_at_call 14; with_reducible refine Calls.mono (J2.out _ HT7.out) ?_; rintro e y1 ⟨⟨q1, k1, rfl⟩, hb, ho⟩; have HY1 := hide hb; have HZ1 := hide ho; clear hb ho J2)
                  | (go_at_call 14; with_reducible refine Calls.mono (J3.out _ HY1.out) ?_; rintro e y2 ⟨⟨q2, k2, rfl⟩, hb, ho⟩; have HY2 := hide hb; have HZ2 := hide ho; clear hb ho J3)
                  | (go_at_call 14; with_reducible refine Calls.mono (J0.out _ HY2.out) ?_; rintro e y4 ⟨⟨q4, k4, rfl⟩, hb, ho⟩; have HY4 := hide hb; have HZ4 := hide ho; clear hb ho J0))
                refine ⟨⟨k + 1, L', HK.out, rfl, HG'.out, HY4.out, ?_⟩, ?_⟩
                · exact (HBl.out.trans ((HO6.out.below HBl.out.size (by simp)).trans (HO7.out.below (Nat.le_trans HBl.out.size HO6.out.size) (by simp)))).trans (((HZ1.out.trans HZ2.out).trans HZ4.out).below (Nat.le_of_lt HT7.out.lt) (by simp))
                · simp only [intOf]; have := HK.out; omega
        · have HEx : Hid (∀ W, TB W w.heap.size L → Calls Try.prog 7 #[.pointer (some ⟨w.heap.size, 0, none⟩), .int .i64 (X k).c, .int .i64 (X k).l] W fun e w' => e = .returned (.int .i64 (exE L (X k))) ∧ TB w' w.heap.size (exH L (X k)) ∧ Only [w.heap.size] W w') := fun W hb => by
            unfold exE exH
            rw [if_neg hd, if_neg hd]
            exact take_some W w.heap.size L HG.out.len hb _ _
          obtain ⟨E, hE⟩ : ∃ E, E = exE L (X k) := ⟨_, rfl⟩
          obtain ⟨L', hL'⟩ : ∃ L', L' = exH L (X k) := ⟨_, rfl⟩
          obtain ⟨C, hC⟩ : ∃ C, C = (X k).c := ⟨_, rfl⟩
          rw [← hE, ← hL', ← hC] at HEx
          rw [← hE, ← hL'] at HE1
          rw [← hL', ← hC] at HE2
          rw [← hL'] at HG'
          have HC := hide hC
          clear hE hL' hC
          go_wp2_with (first
            | ((with_reducible refine at32L ?_); refine wp_load32 HR.out _ (by rfl) (by rfl) (by rfl) ?_)
            | ((with_reducible refine at32S ?_); refine wp_store32 (op_new wr) _ _ (by rfl) (by rfl) (by rfl) (by rfl) ?_; intro W5 hN5 hO5; have HN5 := hide hN5; have HO5 := hide ((Only.alloc wr _ []).andThen hO5 (fun j hj => .inr (by simp at hj; omega))); have HT5 := hide (Blk.later HT.out HO5.out (by simp)); clear hN5 hO5)
            | (go_at_call 11; with_reducible refine Calls.mono (HCo.out _ HT5.out) ?_; rintro e w6 ⟨rfl, hb6, ho6⟩; have HW6 := hide hb6; have HT6 := hide (Blk.later HT5.out ho6 (by simp)); have HN6 := hide (Blk.later HN5.out ho6 (by simp)); have HO6 := hide (HO5.out.trans ho6); have HS6 := hide (Nat.lt_of_lt_of_le HN5.out.lt ho6.size); have HS5 := hide HN5.out.lt; have HS4 := hide HT.out.lt; have cx0 := HN6.out.cell 0; have cx2 := HN6.out.cell 2; have cx3 := HN6.out.cell 3; simp [OpV.cells] at cx0 cx2 cx3; rw [← HC.out] at cx2; clear hb6 ho6 HN5 HT5 HO5)
            | (go_at_call 7; with_reducible refine Calls.mono (HEx.out _ HT6.out) ?_; rintro e w7 ⟨rfl, hb7, ho7⟩; have HT7 := hide hb7; have HW7 := hide (Blk.later HW6.out ho7 (by have := HS5.out; have := HS4.out; simp; omega)); have HN7 := hide (Blk.later HN6.out ho7 (by have := HS4.out; simp; omega)); have HO7 := hide ho7; have cy2 := HN7.out.cell 2; simp [OpV.cells] at cy2; rw [← HC.out] at cy2; clear hb7 ho7 HN6 HW6 HT6 cx0 cx2 cx3))
          go_loopw [12] (fun iv wq => ∃ o : Nat, o ≤ 8 ∧ iv = .int .i64 (o : Int) ∧ wq = w7) (fun iv _ => 8 - (intOf iv).toNat)
          case atStart => exact ⟨0, Nat.zero_le _, rfl, rfl⟩
          case round =>
            obtain ⟨o, ho, rfl, rfl⟩ := hrel
            by_cases hlt : o < 8
            · have l1 : (o : Int) < 8 := by omega
              have l0 : (0 : Int) ≤ (o : Int) := by omega
              have hw1 : IntKind.i64.wrap ((o : Int) + 1) = (o : Int) + 1 := by rw [IntKind.wrap_i64]; omega
              have K1 := hide (has_in _ w.heap.size L' HG'.out.len HT7.out o hlt)
              have K2 := hide (has_in _ W5.heap.size L HG.out.len HW7.out o hlt)
              have b9 : (gt L o != gt L o) = false := by simp
              by_cases hE : E = 0
              · subst hE
                by_cases hC : C = (o : Int)
                · subst hC
                  go_wp2
                  refine ⟨⟨o + 1, hlt, rfl, by trivial⟩, ?_⟩
                  simp only [intOf]; omega
                · rw [HE2.out o (fun h => hC h.symm)] at K1
                  have b1 : ((o : Int) != C) = true := by simpa using fun h : (o : Int) = C => hC h.symm
                  clear hC
                  go_wp2_with (first
                    | (go_at_call 13; with_reducible refine Calls.mono K1.out ?_; rintro e w8 ⟨rfl, rfl⟩)
                    | (go_at_call 13; with_reducible refine Calls.mono K2.out ?_; rintro e w8 ⟨rfl, rfl⟩))
                  refine ⟨⟨o + 1, hlt, rfl, by trivial⟩, ?_⟩
                  simp only [intOf]; omega
              · rw [HE1.out hE] at K1
                have b0 : (E != 0) = true := by simpa using hE
                by_cases hC : C = (o : Int)
                · subst hC
                  clear hE
                  go_wp2_with (first
                    | (go_at_call 13; with_reducible refine Calls.mono K1.out ?_; rintro e w8 ⟨rfl, rfl⟩)
                    | (go_at_call 13; with_reducible refine Calls.mono K2.out ?_; rintro e w8 ⟨rfl, rfl⟩))
                  refine ⟨⟨o + 1, hlt, rfl, by trivial⟩, ?_⟩
                  simp only [intOf]; omega
                · have b1 : ((o : Int) != C) = true := by simpa using fun h : (o : Int) = C => hC h.symm
                  clear hC hE
                  go_wp2_with (first
                    | (go_at_call 13; with_reducible refine Calls.mono K1.out ?_; rintro e w8 ⟨rfl, rfl⟩)
                    | (go_at_call 13; with_reducible refine Calls.mono K2.out ?_; rintro e w8 ⟨rfl, rfl⟩))
                  refine ⟨⟨o + 1, hlt, rfl, by trivial⟩, ?_⟩
                  simp only [intOf]; omega
            · obtain rfl : o = 8 := by omega
              clear HW7 HN7 cy2
              obtain ⟨N2, hN2⟩ : ∃ N, N = (hol L' 2 8).length := ⟨_, rfl⟩
              obtain ⟨N3, hN3⟩ : ∃ N, N = (hol L' 3 8).length := ⟨_, rfl⟩
              obtain ⟨N1, hN1⟩ : ∃ N, N = (hol L' 1 8).length := ⟨_, rfl⟩
              have J2 := hide (fun W hb => holders_n W w.heap.size L' HG'.out.len hb 2 (by decide) N2 hN2)
              have J3 := hide (fun W hb => holders_n W w.heap.size L' HG'.out.len hb 3 (by decide) N3 hN3)
              have J1 := hide (fun W hb => holders_n W w.heap.size L' HG'.out.len hb 1 (by decide) N1 hN1)
              have J0 := hide (fun W hb => holders_n W w.heap.size L' HG'.out.len hb 0 (by decide) 8 HG'.out.zero.symm)
              have n2 : ¬ (1 : Int) < (N2 : Int) := by have := HG'.out.two; omega
              have hn3 := hide (show N3 = 1 → N1 = 1 from fun h => by rw [hN1]; exact HG'.out.three (by omega))
              clear hN1 hN2 hN3
              by_cases h3 : N3 = 1
              · obtain rfl := hn3.out h3
                subst h3
                go_wp2_with (first
                  | (go_at_call 14; with_reducible refine Calls.mono (J2.out _ HT7.out) ?_; rintro e y1 ⟨⟨q1, k1, rfl⟩, hb, ho⟩; have HY1 := hide hb; have HZ1 := hide ho; clear hb ho J2)
                  | (go_at_call 14; with_reducible refine Calls.mono (J3.out _ HY1.out) ?_; rintro e y2 ⟨⟨q2, k2, rfl⟩, hb, ho⟩; have HY2 := hide hb; have HZ2 := hide ho; clear hb ho J3)
                  | (go_at_call 14; with_reducible refine Calls.mono (J1.out _ HY2.out) ?_; rintro e y3 ⟨⟨q3, k3, rfl⟩, hb, ho⟩; have HY3 := hide hb; have HZ3 := hide ho; clear hb ho J1)
                  | (go_at_call 14; with_reducible refine Calls.mono (J0.out _ HY3.out) ?_; rintro e y4 ⟨⟨q4, k4, rfl⟩, hb, ho⟩; have HY4 := hide hb; have HZ4 := hide ho; clear hb ho J0))
                refine ⟨⟨k + 1, L', HK.out, rfl, HG'.out, HY4.out, ?_⟩, ?_⟩
                · exact (HBl.out.trans ((HO6.out.below HBl.out.size (by simp)).trans (HO7.out.below (Nat.le_trans HBl.out.size HO6.out.size) (by simp)))).trans ((((HZ1.out.trans HZ2.out).trans HZ3.out).trans HZ4.out).below (Nat.le_of_lt HT7.out.lt) (by simp))
                · simp only [intOf]; have := HK.out; omega
              · have b3 : ((N3 : Int) == 1) = false := by simp; omega
                have n3 : ¬ (N3 : Int) = 1 := by omega
                clear h3
                go_wp2_with (first
                  | (go_at_call 14; with_reducible refine Calls.mono (J2.out _ HT7.out) ?_; rintro e y1 ⟨⟨q1, k1, rfl⟩, hb, ho⟩; have HY1 := hide hb; have HZ1 := hide ho; clear hb ho J2)
                  | (go_at_call 14; with_reducible refine Calls.mono (J3.out _ HY1.out) ?_; rintro e y2 ⟨⟨q2, k2, rfl⟩, hb, ho⟩; have HY2 := hide hb; have HZ2 := hide ho; clear hb ho J3)
                  | (go_at_call 14; with_reducible refine Calls.mono (J0.out _ HY2.out) ?_; rintro e y4 ⟨⟨q4, k4, rfl⟩, hb, ho⟩; have HY4 := hide hb; have HZ4 := hide ho; clear hb ho J0))
                refine ⟨⟨k + 1, L', HK.out, rfl, HG'.out, HY4.out, ?_⟩, ?_⟩
                · exact (HBl.out.trans ((HO6.out.below HBl.out.size (by simp)).trans (HO7.out.below (Nat.le_trans HBl.out.size HO6.out.size) (by simp)))).trans (((HZ1.out.trans HZ2.out).trans HZ4.out).below (Nat.le_of_lt HT7.out.lt) (by simp))
                · simp only [intOf]; have := HK.out; omega
      · obtain rfl : k = len := by omega
        clear HP HLn HB HO
        go_wp2
        go_loopw [13] (fun iv wq => ∃ (o : Nat) (L2 : List Int), o ≤ 8 ∧ iv = .int .i64 (o : Int) ∧ Good L2 ∧ (∀ i, i < o → gt L2 i = 0) ∧ TB wq w.heap.size L2 ∧ Below w.heap.size w wq) (fun iv _ => 8 - (intOf iv).toNat)
        case atStart => exact ⟨0, L, Nat.zero_le _, rfl, HG.out, fun i hi => by omega, HT.out, HBl.out⟩
        case round =>
          obtain ⟨o, L2, ho, rfl, hG2, hz2, hT2, hB2⟩ := hrel
          have HG2 := hide hG2
          have HZ2 := hide hz2
          have HT2 := hide hT2
          have HBl2 := hide hB2
          clear hG2 hz2 hT2 hB2 HG HT HBl
          by_cases hlt : o < 8
          · have l2 : (o : Int) < 8 := by omega
            have l0 : (0 : Int) ≤ (o : Int) := by omega
            have hw1 : IntKind.i64.wrap ((o : Int) + 1) = (o : Int) + 1 := by rw [IntKind.wrap_i64]; omega
            have ha : askE (o : Int) 0 = 0 := askE_yes (by omega) (by omega) (by omega) (by omega)
            have HDr := hide (drop_some _ w.heap.size L2 HG2.out.len HT2.out (o : Int) 0)
            rw [ha] at HDr
            have HG3 := hide (HG2.out.drop (o : Int) 0)
            have HZ3 : Hid (∀ i, i < o + 1 → gt (drH L2 (o : Int) 0) i = 0) := fun i hi => by
              unfold drH
              rw [if_pos ha, show ((o : Int)).toNat = o by omega, gt_set (by rw [HG2.out.len]; exact hlt)]
              split
              · have := (HG2.out.val o hlt).1
                omega
              · exact HZ2.out i (by omega)
            clear ha
            go_wp2_with (first
              | (go_at_call 9; with_reducible refine Calls.mono HDr.out ?_; rintro e y1 ⟨rfl, hb, ho1⟩; have HT3 := hide hb; have HB3 := hide (HBl2.out.trans (ho1.below (Nat.le_of_lt HT2.out.lt) (by simp))); clear hb ho1))
            refine ⟨⟨o + 1, _, hlt, rfl, HG3.out, HZ3.out, HT3.out, HB3.out⟩, ?_⟩
            simp only [intOf]; omega
          · obtain rfl : o = 8 := by omega
            have HTk := hide (fun W (hb : TB W w.heap.size L2) => take_some W w.heap.size L2 HG2.out.len hb c l)
            rw [tk_free c l HZ2.out] at HTk
            clear HZ2
            by_cases d1 : c < 0
            · rw [askE_no (c := c) (l := l) (by omega)] at HTk
              go_wp2_with (first
                | (go_at_call 7; with_reducible refine Calls.mono (HTk.out _ HT2.out) ?_; rintro e y1 ⟨rfl, hb, ho⟩; have HZ1 := hide (HBl2.out.trans (ho.below (Nat.le_of_lt HT2.out.lt) (by simp))); clear hb ho)
                | (go_at_call 5; with_reducible refine Calls.mono (HAw.out _) ?_; rintro e y2 ⟨rfl, ho⟩; have HZ2 := hide (HZ1.out.trans (ho.below HZ1.out.size (by simp))); clear ho))
              go_ret
              exact ⟨rfl, HZ2.out⟩
            by_cases d2 : 7 < c
            · rw [askE_no (c := c) (l := l) (by omega)] at HTk
              go_wp2_with (first
                | (go_at_call 7; with_reducible refine Calls.mono (HTk.out _ HT2.out) ?_; rintro e y1 ⟨rfl, hb, ho⟩; have HZ1 := hide (HBl2.out.trans (ho.below (Nat.le_of_lt HT2.out.lt) (by simp))); clear hb ho)
                | (go_at_call 5; with_reducible refine Calls.mono (HAw.out _) ?_; rintro e y2 ⟨rfl, ho⟩; have HZ2 := hide (HZ1.out.trans (ho.below HZ1.out.size (by simp))); clear ho))
              go_ret
              exact ⟨rfl, HZ2.out⟩
            by_cases d3 : l < 0
            · rw [askE_no (c := c) (l := l) (by omega)] at HTk
              go_wp2_with (first
                | (go_at_call 7; with_reducible refine Calls.mono (HTk.out _ HT2.out) ?_; rintro e y1 ⟨rfl, hb, ho⟩; have HZ1 := hide (HBl2.out.trans (ho.below (Nat.le_of_lt HT2.out.lt) (by simp))); clear hb ho)
                | (go_at_call 5; with_reducible refine Calls.mono (HAw.out _) ?_; rintro e y2 ⟨rfl, ho⟩; have HZ2 := hide (HZ1.out.trans (ho.below HZ1.out.size (by simp))); clear ho))
              go_ret
              exact ⟨rfl, HZ2.out⟩
            by_cases d4 : 3 < l
            · rw [askE_no (c := c) (l := l) (by omega)] at HTk
              go_wp2_with (first
                | (go_at_call 7; with_reducible refine Calls.mono (HTk.out _ HT2.out) ?_; rintro e y1 ⟨rfl, hb, ho⟩; have HZ1 := hide (HBl2.out.trans (ho.below (Nat.le_of_lt HT2.out.lt) (by simp))); clear hb ho)
                | (go_at_call 5; with_reducible refine Calls.mono (HAw.out _) ?_; rintro e y2 ⟨rfl, ho⟩; have HZ2 := hide (HZ1.out.trans (ho.below HZ1.out.size (by simp))); clear ho))
              go_ret
              exact ⟨rfl, HZ2.out⟩
            · rw [askE_yes (c := c) (l := l) (by omega) (by omega) (by omega) (by omega)] at HTk
              go_wp2_with (first
                | (go_at_call 7; with_reducible refine Calls.mono (HTk.out _ HT2.out) ?_; rintro e y1 ⟨rfl, hb, ho⟩; have HZ1 := hide (HBl2.out.trans (ho.below (Nat.le_of_lt HT2.out.lt) (by simp))); clear hb ho)
                | (go_at_call 5; with_reducible refine Calls.mono (HAw.out _) ?_; rintro e y2 ⟨rfl, ho⟩; have HZ2 := hide (HZ1.out.trans (ho.below HZ1.out.size (by simp))); clear ho))
              go_ret
              exact ⟨rfl, HZ2.out⟩
end Go.Proofs.Ythenbbpfbkmhnaa
