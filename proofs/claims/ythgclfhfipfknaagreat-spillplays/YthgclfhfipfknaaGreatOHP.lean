/- Package space: Free. -/
/- The cells of a page gone over; where it is left, by which cells. -/
import Derived.Test.YthgclfhfipfknaaGreatQF
import Derived.Maps.AppendAt
import Derived.RangeFuncWrites
import Derived.Test.YthgclfhfipfknaaGreatOA
namespace Go.Proofs.YthgclfhfipfknaaGreat
variable {sv : Value}
open Go.ChangeShapes Go.WideShapes Go.ChangeAt Go.RowKit Go.Maps
set_option linter.unusedVariables false

/-- What Free answers. -/
def FrW (w : World) (e : Ending) (w' : World) : Option (List Nat) → Prop
  | none => e = .returned (.tuple #[.slice none 0 0, .int .i64 8]) ∧ Below w.heap.size w w'
  | some l => ∃ v, e = .returned (.tuple #[v, .int .i64 0]) ∧ w'.ownsRow w.heap.size 3 1 v l.length (inL l) ∧ Below w.heap.size w w'
theorem own_base {w : World} {base base' e size n : Nat} {v : Value} {xs : List Value} (h : w.ownsRow base e size v n xs) (hb : base' ≤ base) : w.ownsRow base' e size v n xs := by
  refine ⟨h.1, ?_⟩
  rcases h.2 with hn | ⟨g, cap, cur, e1, h1, rest⟩
  · exact .inl hn
  · exact .inr ⟨g, cap, cur, e1, Nat.le_trans hb h1, rest⟩
theorem frw_end {w wr w' : World} {A M C B base m n t : Nat} {v : Value} {G : List Nat} {P : Nat → List UInt8} {R : Option (List Nat)} (hi : FrI w wr A M C B base 0 m n t v G) (hr : (freeR P n (n - m) 0).map (G ++ ·) = R) (hb : Below wr.heap.size wr w') : FrW w (.returned (.tuple #[v, .int .i64 0])) w' R := by
  rw [freeR_end] at hr
  simp only [Option.map_some, List.append_nil] at hr
  subst hr
  exact ⟨v, rfl, own_base (hi.later hb).own (Nat.le_of_lt (Nat.lt_of_le_of_lt hi.a.1 hi.a.2)), (hi.later hb).bel⟩
set_option maxRecDepth 20000 in
set_option maxHeartbeats 4000000 in
theorem free_e (w : World) (t pm n : Nat) {P : Nat → List UInt8} {K L0 : Nat} {N : Nat → Nat} (h : Ld sv w t pm n P K L0 N) : Calls Tryz.prog 17 #[.pointer (some ⟨t, 0, none⟩)] w fun e w' => FrW w e w' (freeR P n (n - 1) L0) := by
  have HF := hide (firstOf_e w _ _ 0 h.fo)
  have HI := hide (sizeF L0 N)
  have HSz := hide (size_fst L0 0 N zN)
  have HOn := hide (fstL_one L0 N)
  have HFn := hide fst_new
  have HMe := hide (fun X (hb : Below w.heap.size w X) => meeting_e X t pm n (h.tr.later hb) L0)
  have HT := hide h.tr
  have HIr := hide infoFr
  have HFr := hide (fun V => Blk.new V #[.int .i64 0, .int .u32 0] 111)
  have HL0 := hide (And.intro h.lk h.one)
  obtain ⟨R, hR⟩ : ∃ R, freeR P n (n - 1) L0 = R := ⟨_, rfl⟩
  rw [hR]
  have HR := hide hR
  clear h hR
  go_enter Tryz.func17, Tryz.ntmps17
  go_wp2_with (first
    | (go_at_call 50; (with_reducible refine Calls.mono HF.out ?_); rintro e w4 ⟨rfl, hb⟩; have HB4 := hide (below_trans hb (below_alloc w4 (.cells #[.int .u32 0, .int .u32 0, .int .u32 0, .int .u32 0, .int .u32 0, .int .u32 0, .int .u32 0, .int .u32 0, .int .u32 0] 105))); have HF4 := hide (HFn.out w4); have HS4 := hide hb.size; clear hb)
    | ((with_reducible refine atSt 105 ?_); refine wp_storeB (c := (fstL L0 N).toArray) HI.out HSz.out HOn.out HF4.out _ _ (by rfl) (by rfl) (by rfl) (by rfl) ?_; intro W5 hb5 ho5; have c5 := FstB.link hb5; have HB5 := hide (below_only1 HB4.out ho5 HS4.out); clear hb5 ho5)
    | (go_at_call 51; (with_reducible refine Calls.mono (HMe.out _ HB5.out) ?_); rintro e w7 ⟨A, M, C, B, rfl, hm, hb, hA, hM, _⟩; have HM7 := hide hm; have HA7 := hide (And.intro hA hM); have HB7 := hide (below_trans HB5.out hb); clear hm hb hA hM))
  go_loopw [6] (fun v wr => ∃ L m G, FrI w wr A M C B w7.heap.size L m n t v G ∧ (freeR P n (n - m) L).map (G ++ ·) = R) (fun _ wr => n - cellN wr M)
  case atStart =>
    exact ⟨L0, 1, [], ⟨HB7.out, HM7.out, World.ownsRow_nil _ _ _ _, ⟨Nat.le_trans HB5.out.size HA7.out.1, Blk.lt HM7.out.a⟩, ⟨Nat.le_trans HB5.out.size HA7.out.2, Blk.lt HM7.out.m⟩, Blk.lt HM7.out.c, Blk.lt HM7.out.b, Nat.le_refl _, HL0.out.1, Nat.le_refl _, HL0.out.2, by simp⟩, by rw [HR.out]; simp⟩
  case round =>
    rename_i v6 wr
    obtain ⟨L, m, G, hi, hr⟩ := hrel
    have hTr := HT.out.later hi.bel
    obtain ⟨p6, k6, rfl⟩ := own_form hi.own
    by_cases h0 : L = 0
    · subst h0
      have HC := hide (mt_end wr A M C B m n t hi.mt)
      have HEd := hide (fun V => end_e V 0 0)
      have HE := hide (fun w' => frw_end (w' := w') hi hr)
      clear hi hr hTr
      go_wp2_with (first
        | (go_at_call 122; (with_reducible refine Calls.mono HC.out ?_); rintro e w8 ⟨rfl, hb⟩; have HS8 := hide hb.size; have HB8 := hide (below_trans hb (below_alloc w8 (.cells #[.int .i64 0, .int .u32 0] 111))); clear hb)
        | ((with_reducible refine atSt 111 ?_); refine wp_storeB (c := #[.int .i64 0, .int .u32 0]) HIr.out rfl (fr_one _ _) (HFr.out _) _ _ (by rfl) (by rfl) (by rfl) (by rfl) ?_; intro W9 hb9 ho9; have q0 := hb9.cell 0; have q1 := hb9.cell 1; have HB9 := hide (below_only1 HB8.out ho9 HS8.out); clear hb9 ho9)
        | (go_at_call 52; (with_reducible refine Calls.mono (HEd.out _) ?_); rintro e w10 ⟨rfl, hb⟩; have HB10 := hide (below_trans HB9.out hb); clear hb))
      go_ret2
      exact HE.out _ HB10.out
    · by_cases hok : (m ≠ n ∧ 2 ≤ L ∧ L ≤ n) ∧ isFree (P L) = true
      · rw [freeR_some hok hi.le] at hr
        have hfew := hTr.few
        have HC := hide ((mt_meet wr A M C B L m n t pm hTr hi.lt hi.mt hok.1.1 hok.1.2.1 hok.1.2.2 (by have := hi.le; omega)).mono (fun e w' hh => hh.1 hok.2))
        have hX := linkV_lt (P L)
        have HIs := hide (fun w8 W9 o hm ho ho9 => @FrI.step w wr w8 W9 A M C B _ L m n t _ _ G hi hm ho hX hok.1.1 o ho9)
        have HEd := hide (fun V => end_e V (L : Int) (linkV (P L) : Int))
        have hL0 : ((L : Int) == 0) = false := by simp; omega
        rw [hL0] at HEd
        have HM := hide (And.intro hi.mt.num (And.intro hi.le hi.len))
        have HG := hide (show (G.length + 1) * 8 ≤ 140737488355328 by have := hi.len; have := hi.le; omega)
        have HBs := hide (show w.heap.size ≤ w7.heap.size from HB7.out.size)
        have HH := hide hok.1.1
        generalize linkV (P L) = X at *
        have HRr := hide hr
        clear hTr hi hok hfew hr h0
        go_wp2_with (first
          | (go_at_call 122; (with_reducible refine Calls.mono HC.out ?_); rintro e w8 ⟨rfl, hm, ho⟩; have HM8 := hide (And.intro hm ho); clear hm ho)
          | ((with_reducible refine atSt 111 ?_); refine wp_storeB (c := #[.int .i64 (L : Int), .int .u32 (X : Int)]) (z := #[.int .i64 0, .int .u32 0]) HIr.out rfl (fr_one _ _) (HFr.out _) _ _ (by rfl) (by rfl) (by rfl) (by rfl) ?_; intro W9 hb9 ho9; have q0 := hb9.cell 0; have q1 := hb9.cell 1; have HQ9 := hide hb9; have HI9 := hide (HIs.out _ _ _ HM8.out.1 HM8.out.2 ho9); clear hb9 ho9)
          | (go_at_call 52; (with_reducible refine Calls.mono (HEd.out _) ?_); rintro e w10 ⟨rfl, hb⟩; have hq := Blk.later HQ9.out hb; have r0 := hq.cell 0; have r1 := hq.cell 1; have HI10 := hide ((HI9.out.later hb).later (below_alloc w10 (.cells #[.int .i64 (L : Int)] 3))); clear hb hq q0 q1)
          | (at_builtin; refine wp_appI HI10.out.own (m := 1) (news := [.int .i64 (L : Int)]) rfl (one_cell w10 _ _) (one_int _) HG.out HI10.out.sz _ _ (by rfl) (by rfl) (by rfl) (by rfl) ?_; intro v2 w11 ho hk; have HI11 := hide (HI10.out.app (by have := HM.out.2.2; omega) ho (hk _ (Below.refl _ _)) HBs.out); clear ho hk))
        go_roundw
        case rel => exact ⟨X, m + 1, G ++ [L], HI11.out, by have := HRr.out; simpa [Option.map_map, Function.comp_def] using this⟩
        case measure => rw [HI11.out.mt.num, HM.out.1]; have := HH.out; have := HM.out.2.1; omega
      · rw [freeR_none h0 hok hi.le] at hr
        have HC := hide (mt_bad w wr A M C B L m n t pm _ hi hTr h0 hok)
        clear hi hTr h0 hok
        simp only [Option.map_none] at hr
        subst hr
        go_wp2_with (first
          | (go_at_call 122; (with_reducible refine Calls.mono HC.out ?_); rintro e w8 ⟨rfl, hb⟩; have HS8 := hide hb.size; have HB8 := hide (below_trans hb (below_alloc w8 (.cells #[.int .i64 0, .int .u32 0] 111))); clear hb)
          | ((with_reducible refine atSt 111 ?_); refine wp_storeB (c := #[.int .i64 0, .int .u32 0]) HIr.out rfl (fr_one _ _) (HFr.out _) _ _ (by rfl) (by rfl) (by rfl) (by rfl) ?_; intro W9 hb9 ho9; have HB9 := hide (below_only1 HB8.out ho9 HS8.out); clear hb9 ho9))
        go_ret2
        exact ⟨rfl, HB9.out⟩
end Go.Proofs.YthgclfhfipfknaaGreat

namespace Go.Proofs.YthgclfhfipfknaaGreat
open Go.ChangeShapes Go.WideShapes Go.ChangeAt Go.RowKit Go.Shelf
set_option linter.unusedVariables false
attribute [local go_sem] Oper.semAt_some

set_option maxRecDepth 100000 in
set_option maxHeartbeats 2000000 in
theorem cells1_inP (l : List UInt8) (hl : l.length = 256) (c : Nat) (hcv : cntV l = c) (hc : c ≤ 250) (S : Nat → ByteArray) (hS : ∀ k, k < c → 6 + c + sm l (k + 1) ≤ 256 ∧ subS l (6 + c + sm l k) (byt l (6 + k)) = S k)
    (n lp Bp : Nat) (Kp : World → World → Prop) (hKp : ∀ A B, Kp A B → B.heap[Bp]? = A.heap[Bp]?) (J Jx : List (Fin c) → World → Prop)
    (hY : ∀ pre x W, J pre W → pre.length < c → YieldAt Fence.wide (n - 1) Tryz.prog lp (encC S x.val) W fun e W' =>
      (e = .returned (.bool true) ∧ J (pre ++ [x]) W' ∧ Kp W W') ∨ (e = .returned (.bool false) ∧ Jx (pre ++ [x]) W'))
    (W : World) (hJ : AbidesFrom W.heap.size J) (hP : PAt W Bp l) (h0 : J [] W) :
    CallsIn Fence.wide n Tryz.prog 188 #[.func (.yield lp) #[] #[], .pointer (some ⟨Bp, 0, none⟩)] W fun e W' => (∃ v, e = .returned v) ∧
      ((∃ ys, ys = List.finRange c ∧ J ys W') ∨ (∃ pre, (∃ r, pre ++ r = List.finRange c) ∧ Jx pre W')) := by
  have HP := hide hP
  have HL := hide hl
  have HC : Hid (∀ V, Calls Tryz.prog 104 #[.agg (bc l)] V fun e w' => e = .returned (.int .i64 (c : Int)) ∧ Below V.heap.size V w') := fun V => by rw [← hcv]; exact count_walk l hl V
  have e1 : IntKind.i64.wrap (6 + (c : Int)) = 6 + (c : Int) := by rw [IntKind.wrap_i64]; omega
  have hs : ∀ V : World, (Instr.sliceAt 59 (.pointer (some ⟨Bp, 0, none⟩)) (some (.int .i64 6)) (some (.int .i64 (6 + (c : Int)))) none).run Tryz.prog V = .ok (.slice (some ⟨Bp, 6, none⟩) c (256 - 6)) V := fun V => cut_page V Bp (x := 6) (y := 6 + (c : Int)) 6 c rfl rfl (by omega) (by omega)
  refine callsIn_of_wp Tryz.func188 rfl trivial ?_ rfl
  simp only [Tryz.ntmps188, List.size_toArray, List.length_cons, List.length_nil, Nat.reduceAdd, Nat.reduceSub, Array.replicate_succ, Array.replicate_zero, List.push_toArray, List.append_toArray, List.nil_append, List.cons_append]
  gi_wp2_with (first
    | (refine wpIn_loadP HL.out HP.out _ (by rfl) (by rfl) (by rfl) ?_)
    | (refine ⟨trivial, (fun h => absurd h (by decide)), ?_⟩; gi_at_call 104; refine CallsIn.mono (callsIn_wide.2 (HC.out _)) ?_; rintro e w2 ⟨rfl, hb2⟩; have HJ2 := hide (hJ _ _ _ _ h0 (grown_below hb2) (fun r e => by cases e)); have HP2 := hide (HP.out.later hb2); clear hb2))
  gi_loopw [16, 4] (fun iv av wr => ∃ k : Nat, k ≤ c ∧ iv = .int .i64 (k : Int) ∧ av = .int .i64 ((6 + c + sm l k : Nat) : Int) ∧ J ((List.finRange c).take k) wr ∧ PAt wr Bp l) (fun iv _ _ => c - (intOf iv).toNat)
  case atStart => exact ⟨0, Nat.zero_le _, rfl, rfl, HJ2.out, HP2.out⟩
  case round =>
    obtain ⟨k, hk, rfl, rfl, hJs, hPr⟩ := hrel
    by_cases hlt : k < c
    · obtain ⟨hle, hSk⟩ := hS k hlt
      obtain ⟨fn, tmps, assign, body, hy, hR⟩ := hY _ ⟨k, hlt⟩ wr hJs (by rw [List.length_take, List.length_finRange]; omega)
      have HTk : Hid ((List.finRange c).take k ++ [⟨k, hlt⟩] = (List.finRange c).take (k + 1)) := by
        show _ = _
        rw [List.take_add_one, List.getElem?_eq_getElem (by rw [List.length_finRange]; exact hlt)]
        simp
      simp only [encC] at hy
      have HR := hide hR
      have HPr := hide hPr
      have hlt' : (k : Int) < (c : Int) := by omega
      have hk0 : (0 : Int) ≤ (k : Int) := by omega
      have ck := hPr.cell (k := 6 + k) (by omega)
      have bk := byt_lt l (6 + k)
      simp only [sm] at hle
      have w1 : IntKind.i64.wrap (((6 + c + sm l k : Nat) : Int) + (byt l (6 + k) : Int)) = ((6 + c + sm l k : Nat) : Int) + (byt l (6 + k) : Int) := by rw [IntKind.wrap_i64]; omega
      have w2 : IntKind.i64.wrap (byt l (6 + k) : Int) = (byt l (6 + k) : Int) := by rw [IntKind.wrap_i64]; omega
      have w3 : IntKind.i64.wrap ((k : Int) + 1) = (k : Int) + 1 := by rw [IntKind.wrap_i64]; omega
      obtain ⟨x1, hs1, hx1⟩ := cut_page' Bp (x := 6 + (c : Int) + (sm l k : Int)) (y := 6 + (c : Int) + (sm l k : Int) + (byt l (6 + k) : Int)) (6 + c + sm l k) (byt l (6 + k)) (by omega) (by omega) (by omega)
      have hv1 := conv_page HL.out hPr x1 (6 + c + sm l k) (byt l (6 + k)) (256 - (6 + c + sm l k)) (by omega) hx1
      rw [hSk] at hv1
      clear hR hPr hS hY hx1
      gi_wp2
      refine ⟨(fun h => absurd h (by decide)), HR.out.mono ?_⟩
      rintro e W3 (⟨rfl, hJ3, hk3⟩ | ⟨rfl, hJx3⟩)
      · have hP3 : PAt W3 Bp l := by
          show W3.heap[Bp]? = _
          rw [hKp _ _ hk3]; exact HPr.out
        gi_wp2
        go_roundw
        case rel => exact ⟨k + 1, by omega, by simp, by simp only [sm]; exact congrArg (Value.int IntKind.i64) (by omega), by rw [← HTk.out]; exact hJ3, hP3⟩
        case measure => simp [intOf]; omega
      · gi_wp2
        refine bodyPost_ret (results_none rfl _ _ _) rfl ?_
        exact ⟨⟨_, rfl⟩, .inr ⟨_, ⟨(List.finRange c).drop (k + 1), by rw [HTk.out, List.take_append_drop]⟩, hJx3⟩⟩
    · obtain rfl : k = c := by omega
      gi_wp2
      go_end0
      rw [List.take_of_length_le (by rw [List.length_finRange]; exact Nat.le_refl _)] at hJs
      exact ⟨⟨_, rfl⟩, .inl ⟨_, rfl, hJs⟩⟩

theorem cells_stopsP (l : List UInt8) (hl : l.length = 256) (c : Nat) (hcv : cntV l = c) (hc : c ≤ 250) (S : Nat → ByteArray) (hS : ∀ k, k < c → 6 + c + sm l (k + 1) ≤ 256 ∧ subS l (6 + c + sm l k) (byt l (6 + k)) = S k)
    (n Bp : Nat) (Kp : World → World → Prop) (hKp : ∀ A B, Kp A B → B.heap[Bp]? = A.heap[Bp]?) (w : World) (hB2 : Bp < w.heap.size) (hP : PAt w Bp l) :
    SeqStopsK Fence.wide n Tryz.prog 188 #[.pointer (some ⟨Bp, 0, none⟩)] (fun x : Fin c => encC S x.val) Kp (fun ys => ys = List.finRange c) (fun pre => ∃ r, pre ++ r = List.finRange c) c w := fun lp J Jx W hW hJ _ hY h0 =>
  cells1_inP l hl c hcv hc S hS n lp Bp Kp hKp J Jx hY W hJ (hP.later hW) h0
end Go.Proofs.YthgclfhfipfknaaGreat
