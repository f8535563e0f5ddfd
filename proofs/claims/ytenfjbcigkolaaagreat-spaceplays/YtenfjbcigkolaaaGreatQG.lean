/- Package space: Free. -/
/- Package space: Free. -/
import Derived.Test.YtenfjbcigkolaaaGreatQB
namespace Go.Proofs.YtenfjbcigkolaaaGreat
variable {sv : Value}
open Go.ChangeShapes Go.WideShapes Go.ChangeAt Go.RowKit Go.Maps
set_option linter.unusedVariables false

/-- The free pages, from a link on. -/
noncomputable def freeR (P : Nat → List UInt8) (n : Nat) : Nat → Nat → Option (List Nat)
  | 0, L => if L = 0 then some [] else none
  | f + 1, L => if L = 0 then some [] else if 2 ≤ L ∧ L ≤ n ∧ isFree (P L) = true then (freeR P n f (linkV (P L))).map (L :: ·) else none
def inL (G : List Nat) : List Value := G.map fun (i : Nat) => Value.int .i64 (i : Int)
theorem int_info : ∃ i, Tryz.prog.info? 3 = some i ∧ i.zero = some (.int .i64 0) ∧ i.size = 1 ∧ i.bytes = 8 := by
  have h : (Tryz.prog.info? 3).map (fun i => (i.zero, i.size, i.bytes)) = some (some (.int .i64 0), 1, 8) := by kernel_rfl
  obtain ⟨i, h1, h2⟩ := Option.map_eq_some_iff.1 h
  simp only [Prod.mk.injEq] at h2
  exact ⟨i, h1, h2.1, h2.2.1, h2.2.2⟩
theorem one_int (s : Int) : ∀ u ∈ [Value.int .i64 s], u.oneCell' = true := by
  intro u hu
  simp at hu
  rw [hu]; rfl
/-- Numbers are appended to a row that is owned. -/
theorem wp_appI {ops : Array Oper} {rest : List Oper} {o : Oper} {a : Act} {Q : Exit → Act → World → Prop} {w : World} {base n : Nat} {v : Value} {xs : List Value} (hown : w.ownsRow base 3 1 v n xs) {ad : Addr} {m c : Nat} {news : List Value}
    (hl : news.length = m * 1) (hnews : ∀ j u, news[j]? = some u → w.cell? (ad.add j) = some u) (h1 : ∀ u ∈ news, u.oneCell' = true) (hn : (n + m) * 8 ≤ 140737488355328) (hbase : base ≤ w.heap.size) (s z : Operand)
    (hgd : o.guard = none) (ho : o.op = .call { callee := .builtin .append, args := #[s, z], argTypes := #[42, 42] }) (hs : a.eval s = v) (hz : a.eval z = .slice (some ad) m c)
    (hk : ∀ v' w', w'.ownsRow base 3 1 v' (n + m) (xs ++ news) → (∀ A, Below base A w → Below base A w') → wpList Tryz.prog ops Q rest (a.put o.dst v') w') : wpList Tryz.prog ops Q (o :: rest) a w := by
  obtain ⟨i, hi, hz0, hsz, hby⟩ := int_info
  refine wpList_append_own w hgd s z 42 ho base 3 i _ 1 8 Tryz.underlying42 hi hz0 hsz hby rfl (by omega) v n xs hs hown ad m c news hz hl hnews h1 (by simp only [maxLen]; omega) hn hbase (fun v' w' h2 h3 h4 => hk v' w' h2 (fun A hA => hA.grown h3 hbase (fun k e => ?_)))
  rcases hown.2 with ⟨rfl, _⟩ | ⟨g, cap, cur, rfl, hbg, _⟩
  · cases e
  · simp only [Value.ownBlock, Option.some.injEq] at e
    omega
theorem own_only {w w' : World} {base e size n : Nat} {v : Value} {xs : List Value} {S : List Nat} (h : w.ownsRow base e size v n xs) (ho : Only S w w') (hS : ∀ k ∈ S, k < base) : w'.ownsRow base e size v n xs := by
  refine ⟨h.1, ?_⟩
  rcases h.2 with hn | ⟨g, cap, cur, rfl, hb, hgg, rest⟩
  · exact .inl hn
  · refine .inr ⟨g, cap, cur, rfl, hb, ?_, rest⟩
    rw [ho.block g (Array.getElem?_eq_some_iff.1 hgg).1 (fun hm => by have := hS _ hm; omega)]
    exact hgg
/-- The state of Free's loop. -/
structure FrI (w wr : World) (A M C B base L m n t : Nat) (v : Value) (G : List Nat) : Prop where
  bel : Below w.heap.size w wr
  mt : MtB wr A M C B L m n t
  own : wr.ownsRow base 3 1 v G.length (inL G)
  a : w.heap.size ≤ A ∧ A < base
  mm : w.heap.size ≤ M ∧ M < base
  c : C < base
  b : B < base
  sz : base ≤ wr.heap.size
  lt : L < 4294967296
  one : 1 ≤ m
  le : m ≤ n
  len : G.length + 1 ≤ m
theorem freeR_end {P : Nat → List UInt8} {n f : Nat} : freeR P n f 0 = some [] := by cases f <;> simp [freeR]
theorem freeR_none {P : Nat → List UInt8} {n m L : Nat} (h0 : L ≠ 0) (h : ¬ ((m ≠ n ∧ 2 ≤ L ∧ L ≤ n) ∧ isFree (P L) = true)) (hle : m ≤ n) : freeR P n (n - m) L = none := by
  by_cases h1 : n - m = 0
  · rw [h1, freeR, if_neg h0]
  · obtain ⟨f, hf⟩ : ∃ f, n - m = f + 1 := ⟨n - m - 1, by omega⟩
    rw [hf, freeR, if_neg h0, if_neg]
    intro hh
    exact h ⟨⟨by omega, hh.1, hh.2.1⟩, hh.2.2⟩
theorem freeR_some {P : Nat → List UInt8} {n m L : Nat} (h : (m ≠ n ∧ 2 ≤ L ∧ L ≤ n) ∧ isFree (P L) = true) (hle : m ≤ n) : freeR P n (n - m) L = (freeR P n (n - (m + 1)) (linkV (P L))).map (L :: ·) := by
  obtain ⟨⟨h1, h2, h3⟩, h4⟩ := h
  obtain ⟨f, hf⟩ : ∃ f, n - m = f + 1 := ⟨n - m - 1, by omega⟩
  rw [hf, freeR, if_neg (by omega), if_pos ⟨h2, h3, h4⟩, show n - (m + 1) = f by omega]
theorem mt_bad (w wr : World) (A M C B L m n t pm base : Nat) {v : Value} {G : List Nat} {P : Nat → List UInt8} {K : Nat} {b : Bool} (hi : FrI w wr A M C B base L m n t v G) (ht : Tr sv wr t pm n P K b) (h0 : L ≠ 0) (hok : ¬ ((m ≠ n ∧ 2 ≤ L ∧ L ≤ n) ∧ isFree (P L) = true)) :
    Calls Tryz.prog 136 #[.pointer (some ⟨A, 0, none⟩), .pointer (some ⟨M, 0, none⟩), .pointer (some ⟨C, 0, none⟩), .pointer (some ⟨B, 0, none⟩)] wr fun e w' => e = .returned (.tuple #[.agg #[.int .i64 0, .int .u32 0], .int .i64 8]) ∧ Below w.heap.size w w' := by
  by_cases hf : m = n ∨ ¬ (2 ≤ L ∧ L ≤ n)
  · exact (mt_far wr A M C B L m n t hi.lt h0 hi.mt hf).mono fun e w' hh => ⟨hh.1, below_trans hi.bel hh.2⟩
  · have h1 : m ≠ n ∧ 2 ≤ L ∧ L ≤ n := by omega
    have hfr : isFree (P L) = false := by
      cases hq : isFree (P L) with
      | false => rfl
      | true => exact absurd ⟨h1, hq⟩ hok
    have := ht.few
    exact (mt_meet wr A M C B L m n t pm ht hi.lt hi.mt h1.1 h1.2.1 h1.2.2 (by have := hi.le; omega)).mono fun e w' hh => ⟨(hh.2 hfr).1, below_only hi.bel (hh.2 hfr).2.2 (two_in hi.a.1 hi.mm.1)⟩
theorem FrI.later {w wr w' : World} {A M C B base L m n t : Nat} {v : Value} {G : List Nat} (h : FrI w wr A M C B base L m n t v G) (hb : Below wr.heap.size wr w') : FrI w w' A M C B base L m n t v G :=
  ⟨below_trans h.bel hb, h.mt.later hb, own_only h.own (Only.of_below (S := []) hb) (by simp), h.a, h.mm, h.c, h.b, Nat.le_trans h.sz hb.size, h.lt, h.one, h.le, h.len⟩
theorem FrI.step {w wr w8 W9 : World} {A M C B base L m n t X : Nat} {v : Value} {G : List Nat} (hi : FrI w wr A M C B base L m n t v G) (hm : MtB w8 A M C B X (m + 1) n t) (ho : Only [A, M] wr w8) (hX : X < 4294967296) (hmn : m ≠ n) {o : Obj} (ho9 : Only [w8.heap.size] (w8.alloc o) W9) : FrI w W9 A M C B base X (m + 1) n t v G := by
  have h1 := below_only hi.bel ho (two_in hi.a.1 hi.mm.1)
  have h2 : Below w.heap.size w W9 := below_only1 (below_trans h1 (below_alloc _ _)) ho9 h1.size
  have k : ∀ {b : Nat} {c : Array Value} {ty : TypeId}, Blk w8 b c ty → Blk W9 b c ty := fun {b c ty} hb => Blk.only (Blk.later hb (below_alloc _ _)) ho9 (by have := Blk.lt hb; simp; omega)
  have o1 := own_only hi.own ho (fun k hk => by have := hi.a.2; have := hi.mm.2; simp at hk; omega)
  have s1 := ho.size
  have s2 := ho9.size
  simp only [World.alloc] at s2
  have o2 : W9.ownsRow base 3 1 v G.length (inL G) := by
    refine ⟨o1.1, ?_⟩
    rcases o1.2 with hn | ⟨g, cap, cur, rfl, hb, hgg, rest⟩
    · exact .inl hn
    · exact .inr ⟨g, cap, cur, rfl, hb, ho9.blk (((below_alloc w8 o).block g (Array.getElem?_eq_some_iff.1 hgg).1).trans hgg) (by have := (Array.getElem?_eq_some_iff.1 hgg).1; simp; omega), rest⟩
  exact ⟨h2, ⟨k hm.a, k hm.m, k hm.c, k hm.b, hm.mc⟩, o2, hi.a, hi.mm, hi.c, hi.b, by have := hi.sz; have := ho9.size; simp at this; omega, hX, by omega, by have := hi.le; omega, by have := hi.len; omega⟩
theorem FrI.app {w wr w' : World} {A M C B base L m n t k : Nat} {v v' : Value} {G : List Nat} (hi : FrI w wr A M C B base L m n t v G) (hlen : G.length + 2 ≤ m) (ho : w'.ownsRow base 3 1 v' (G.length + 1) (inL G ++ [.int .i64 (k : Int)])) (hb : Below base wr w') (hs : w.heap.size ≤ base) : FrI w w' A M C B base L m n t v' (G ++ [k]) := by
  have kk : ∀ {b : Nat} {c : Array Value} {ty : TypeId}, Blk wr b c ty → b < base → Blk w' b c ty := fun {b c ty} hh hn => (hb.block _ hn).trans hh
  exact ⟨hi.bel.trans (hb.mono hs), ⟨kk hi.mt.a hi.a.2, kk hi.mt.m hi.mm.2, kk hi.mt.c hi.c, kk hi.mt.b hi.b, hi.mt.mc⟩, by simpa [inL] using ho, hi.a, hi.mm, hi.c, hi.b, Nat.le_trans hi.sz hb.size, hi.lt, hi.one, hi.le, by simp; omega⟩
end Go.Proofs.YtenfjbcigkolaaaGreat

namespace Go.Proofs.YtenfjbcigkolaaaGreat
variable {sv : Value}
open Go.ChangeShapes Go.WideShapes Go.ChangeAt Go.RowKit Go.Maps
set_option linter.unusedVariables false

/-- What Free answers. -/
def FrW (w : World) (e : Ending) (w' : World) : Option (List Nat) → Prop
  | none => e = .returned (.tuple #[.slice none 0 0, .int .i64 8]) ∧ Below w.heap.size w w'
  | some l => ∃ v, e = .returned (.tuple #[v, .int .i64 0]) ∧ w'.ownsRow w.heap.size 3 1 v l.length (inL l) ∧ Below w.heap.size w w'
theorem own_base {w : World} {base base' e size n : Nat} {v : Value} {xs : List Value} (h : w.ownsRow base e size v n xs) (hb : base' ≤ base) : w.ownsRow base' e size v n xs := by
  refine ⟨h.1, ?_⟩
  rcases h.2 with hn | ⟨g, cap, cur, e1, h1, rest⟩
  · exact .inl hn
  · exact .inr ⟨g, cap, cur, e1, Nat.le_trans hb h1, rest⟩
theorem frw_end {w wr w' : World} {A M C B base m n t : Nat} {v : Value} {G : List Nat} {P : Nat → List UInt8} {R : Option (List Nat)} (hi : FrI w wr A M C B base 0 m n t v G) (hr : (freeR P n (n - m) 0).map (G ++ ·) = R) (hb : Below wr.heap.size wr w') : FrW w (.returned (.tuple #[v, .int .i64 0])) w' R := by
  rw [freeR_end] at hr
  simp only [Option.map_some, List.append_nil] at hr
  subst hr
  exact ⟨v, rfl, own_base (hi.later hb).own (Nat.le_of_lt (Nat.lt_of_le_of_lt hi.a.1 hi.a.2)), (hi.later hb).bel⟩
set_option maxRecDepth 20000 in
set_option maxHeartbeats 4000000 in
theorem free_e (w : World) (t pm n : Nat) {P : Nat → List UInt8} {K L0 : Nat} {N : Nat → Nat} (h : Ld sv w t pm n P K L0 N) : Calls Tryz.prog 44 #[.pointer (some ⟨t, 0, none⟩)] w fun e w' => FrW w e w' (freeR P n (n - 1) L0) := by
  have HF := hide (firstOf_e w _ _ 0 h.fo)
  have HI := hide (sizeF L0 N)
  have HSz := hide (size_fst L0 0 N zN)
  have HOn := hide (fstL_one L0 N)
  have HFn := hide fst_new
  have HMe := hide (fun X (hb : Below w.heap.size w X) => meeting_e X t pm n (h.tr.later hb) L0)
  have HT := hide h.tr
  have HIr := hide infoFr
  have HFr := hide (fun V => Blk.new V #[.int .i64 0, .int .u32 0] 155)
  have HL0 := hide (And.intro h.lk h.one)
  obtain ⟨R, hR⟩ : ∃ R, freeR P n (n - 1) L0 = R := ⟨_, rfl⟩
  rw [hR]
  have HR := hide hR
  clear h hR
  go_enter Tryz.func44, Tryz.ntmps44
  go_wp2_with (first
    | (go_at_call 93; (with_reducible refine Calls.mono HF.out ?_); rintro e w4 ⟨rfl, hb⟩; have HB4 := hide (below_trans hb (below_alloc w4 (.cells #[.int .u32 0, .int .u32 0, .int .u32 0, .int .u32 0, .int .u32 0, .int .u32 0, .int .u32 0, .int .u32 0, .int .u32 0] 151))); have HF4 := hide (HFn.out w4); have HS4 := hide hb.size; clear hb)
    | ((with_reducible refine atSt 151 ?_); refine wp_storeB (c := (fstL L0 N).toArray) HI.out HSz.out HOn.out HF4.out _ _ (by rfl) (by rfl) (by rfl) (by rfl) ?_; intro W5 hb5 ho5; have c5 := FstB.link hb5; have HB5 := hide (below_only1 HB4.out ho5 HS4.out); clear hb5 ho5)
    | (go_at_call 96; (with_reducible refine Calls.mono (HMe.out _ HB5.out) ?_); rintro e w7 ⟨A, M, C, B, rfl, hm, hb, hA, hM, _⟩; have HM7 := hide hm; have HA7 := hide (And.intro hA hM); have HB7 := hide (below_trans HB5.out hb); clear hm hb hA hM))
  go_loopw [6] (fun v wr => ∃ L m G, FrI w wr A M C B w7.heap.size L m n t v G ∧ (freeR P n (n - m) L).map (G ++ ·) = R) (fun _ wr => n - cellN wr M)
  case atStart =>
    exact ⟨L0, 1, [], ⟨HB7.out, HM7.out, World.ownsRow_nil _ _ _ _, ⟨Nat.le_trans HB5.out.size HA7.out.1, Blk.lt HM7.out.a⟩, ⟨Nat.le_trans HB5.out.size HA7.out.2, Blk.lt HM7.out.m⟩, Blk.lt HM7.out.c, Blk.lt HM7.out.b, Nat.le_refl _, HL0.out.1, Nat.le_refl _, HL0.out.2, by simp⟩, by rw [HR.out]; simp⟩
  case round =>
    rename_i v6 wr
    obtain ⟨L, m, G, hi, hr⟩ := hrel
    have hTr := HT.out.later hi.bel
    obtain ⟨p6, k6, rfl⟩ := own_form hi.own
    by_cases h0 : L = 0
    · subst h0
      have HC := hide (mt_end wr A M C B m n t hi.mt)
      have HEd := hide (fun V => end_e V 0 0)
      have HE := hide (fun w' => frw_end (w' := w') hi hr)
      clear hi hr hTr
      go_wp2_with (first
        | (go_at_call 136; (with_reducible refine Calls.mono HC.out ?_); rintro e w8 ⟨rfl, hb⟩; have HS8 := hide hb.size; have HB8 := hide (below_trans hb (below_alloc w8 (.cells #[.int .i64 0, .int .u32 0] 155))); clear hb)
        | ((with_reducible refine atSt 155 ?_); refine wp_storeB (c := #[.int .i64 0, .int .u32 0]) HIr.out rfl (fr_one _ _) (HFr.out _) _ _ (by rfl) (by rfl) (by rfl) (by rfl) ?_; intro W9 hb9 ho9; have q0 := hb9.cell 0; have q1 := hb9.cell 1; have HB9 := hide (below_only1 HB8.out ho9 HS8.out); clear hb9 ho9)
        | (go_at_call 97; (with_reducible refine Calls.mono (HEd.out _) ?_); rintro e w10 ⟨rfl, hb⟩; have HB10 := hide (below_trans HB9.out hb); clear hb))
      go_ret2
      exact HE.out _ HB10.out
    · by_cases hok : (m ≠ n ∧ 2 ≤ L ∧ L ≤ n) ∧ isFree (P L) = true
      · rw [freeR_some hok hi.le] at hr
        have hfew := hTr.few
        have HC := hide ((mt_meet wr A M C B L m n t pm hTr hi.lt hi.mt hok.1.1 hok.1.2.1 hok.1.2.2 (by have := hi.le; omega)).mono (fun e w' hh => hh.1 hok.2))
        have hX := linkV_lt (P L)
        have HIs := hide (fun w8 W9 o hm ho ho9 => @FrI.step w wr w8 W9 A M C B _ L m n t _ _ G hi hm ho hX hok.1.1 o ho9)
        have HEd := hide (fun V => end_e V (L : Int) (linkV (P L) : Int))
        have hL0 : ((L : Int) == 0) = false := by simp; omega
        rw [hL0] at HEd
        have HM := hide (And.intro hi.mt.num (And.intro hi.le hi.len))
        have HG := hide (show (G.length + 1) * 8 ≤ 140737488355328 by have := hi.len; have := hi.le; omega)
        have HBs := hide (show w.heap.size ≤ w7.heap.size from HB7.out.size)
        have HH := hide hok.1.1
        generalize linkV (P L) = X at *
        have HRr := hide hr
        clear hTr hi hok hfew hr h0
        go_wp2_with (first
          | (go_at_call 136; (with_reducible refine Calls.mono HC.out ?_); rintro e w8 ⟨rfl, hm, ho⟩; have HM8 := hide (And.intro hm ho); clear hm ho)
          | ((with_reducible refine atSt 155 ?_); refine wp_storeB (c := #[.int .i64 (L : Int), .int .u32 (X : Int)]) (z := #[.int .i64 0, .int .u32 0]) HIr.out rfl (fr_one _ _) (HFr.out _) _ _ (by rfl) (by rfl) (by rfl) (by rfl) ?_; intro W9 hb9 ho9; have q0 := hb9.cell 0; have q1 := hb9.cell 1; have HQ9 := hide hb9; have HI9 := hide (HIs.out _ _ _ HM8.out.1 HM8.out.2 ho9); clear hb9 ho9)
          | (go_at_call 97; (with_reducible refine Calls.mono (HEd.out _) ?_); rintro e w10 ⟨rfl, hb⟩; have hq := Blk.later HQ9.out hb; have r0 := hq.cell 0; have r1 := hq.cell 1; have HI10 := hide ((HI9.out.later hb).later (below_alloc w10 (.cells #[.int .i64 (L : Int)] 3))); clear hb hq q0 q1)
          | (at_builtin; refine wp_appI HI10.out.own (m := 1) (news := [.int .i64 (L : Int)]) rfl (one_cell w10 _ _) (one_int _) HG.out HI10.out.sz _ _ (by rfl) (by rfl) (by rfl) (by rfl) ?_; intro v2 w11 ho hk; have HI11 := hide (HI10.out.app (by have := HM.out.2.2; omega) ho (hk _ (Below.refl _ _)) HBs.out); clear ho hk))
        go_roundw
        case rel => exact ⟨X, m + 1, G ++ [L], HI11.out, by have := HRr.out; simpa [Option.map_map, Function.comp_def] using this⟩
        case measure => rw [HI11.out.mt.num, HM.out.1]; have := HH.out; have := HM.out.2.1; omega
      · rw [freeR_none h0 hok hi.le] at hr
        have HC := hide (mt_bad w wr A M C B L m n t pm _ hi hTr h0 hok)
        clear hi hTr h0 hok
        simp only [Option.map_none] at hr
        subst hr
        go_wp2_with (first
          | (go_at_call 136; (with_reducible refine Calls.mono HC.out ?_); rintro e w8 ⟨rfl, hb⟩; have HS8 := hide hb.size; have HB8 := hide (below_trans hb (below_alloc w8 (.cells #[.int .i64 0, .int .u32 0] 155))); clear hb)
          | ((with_reducible refine atSt 155 ?_); refine wp_storeB (c := #[.int .i64 0, .int .u32 0]) HIr.out rfl (fr_one _ _) (HFr.out _) _ _ (by rfl) (by rfl) (by rfl) (by rfl) ?_; intro W9 hb9 ho9; have HB9 := hide (below_only1 HB8.out ho9 HS8.out); clear hb9 ho9))
        go_ret2
        exact ⟨rfl, HB9.out⟩
end Go.Proofs.YtenfjbcigkolaaaGreat
