/- SpacePlays: the walk. -/
import Derived.Test.YtenfjbcigkolaaaGreatZU
import Derived.Test.YtenfjbcigkolaaaGreatSM
namespace Go.Proofs.YtenfjbcigkolaaaGreat
open Go.ChangeShapes Go.WideShapes Go.ChangeAt Go.RowKit Go.Maps
set_option linter.unusedVariables false

/-- A row of calls that came in. -/
def OpP (w : World) (p : Option Addr) (len : Nat) (D A : Nat → Int) (X : Nat → Nat) : Prop := 0 < len → ∃ b o, p = some ⟨b, o, none⟩ ∧ ∀ i, i < len → w.cell? ⟨b, o + i * 3, none⟩ = some (.int .i64 (D i)) ∧ w.cell? ⟨b, o + i * 3 + 1, none⟩ = some (.int .i64 (A i)) ∧ w.cell? ⟨b, o + i * 3 + 2, none⟩ = some (.int .u32 (X i : Int)) ∧ X i < 4294967296
theorem op_cells {W : World} {g : Nat} {a b c : Value} {ty : TypeId} (h : Blk W g #[a, b, c] ty) : W.cell? ⟨g, 0, none⟩ = some a ∧ W.cell? ⟨g, 1, none⟩ = some b ∧ W.cell? ⟨g, 2, none⟩ = some c := ⟨h.cell 0, h.cell 1, h.cell 2⟩
theorem infoOp : (Tryz.prog.info? 69).map (·.size) = some 3 := by kernel_rfl
theorem op_one (a b : Int) (c : Int) : (#[Value.int .i64 a, .int .i64 b, .int .u32 c]).all (·.oneCell') = true := all_oneCell_toArray (cs := [Value.int .i64 a, .int .i64 b, .int .u32 c]) (by intro v hv; simp at hv; rcases hv with rfl | rfl | rfl <;> rfl)
theorem frp_nil (w : World) : FrP w none 0 [] := ⟨by simp, fun _ => ⟨rfl, rfl⟩, fun h => by simp at h⟩
/-- The start. -/
theorem plays_start {w w1 W2 : World} {t pm : Nat} (ht : Tr (.slice none 0 0) w1 t pm 0 zPg 0 true) (hb : Below w.heap.size w w1) (h3 : w.heap.size ≤ t ∧ w.heap.size ≤ pm) {o : Obj} (hk : SpB W2 w1.heap.size false 0 (.slice none 0 0) zN) (ho : Only [w1.heap.size] (w1.alloc o) W2) :
    PL w (W2.alloc (.cells #[] 66)) W2.heap.size t pm 0 0 w1.heap.size zPg (.slice none 0 0) (.slice (some ⟨W2.heap.size, 0, none⟩) 0 0) [] ⟨false, 0, [], zN, none, 0⟩ [] 0 := by
  have b2 : Below w1.heap.size w1 W2 := below_only1 (below_alloc _ _) ho (Nat.le_refl _)
  have b3 : Below w1.heap.size w1 (W2.alloc (.cells #[] 66)) := below_trans b2 (below_alloc _ _)
  have hlt := Blk.lt hk
  refine ⟨⟨below_trans hb b3, SpB.later hk (below_alloc _ _), frp_nil _, ⟨rfl, .inr ⟨W2.heap.size, 0, #[], rfl, Nat.le_refl _, Blk.new _ _ _, Nat.le_refl _, by simp [maxLen], rfl, rfl⟩⟩, by simp, ⟨hb.size, hlt⟩, (below_alloc _ _).size⟩, ht.later b3, ⟨⟨rfl, .inl ⟨rfl, rfl⟩⟩, by simp⟩, .un rfl rfl rfl rfl, rfl, by simp, ⟨h3.1, h3.2, Nat.le_trans hb.size b2.size⟩, by simp⟩
theorem SpB.setN {w : World} {b i x : Nat} {d : Bool} {c : Int} {f : Value} {N : Nat → Nat} (h : SpB w b d c f N) (hi : i < 8) : SpB (w.setCell ⟨b, 3 + i, none⟩ (.int .u32 (x : Int))) b d c f (stM N i x) := by
  have := Blk.set h (3 + i) (.int .u32 (x : Int))
  have e : (spL d c f N).toArray.setIfInBounds (3 + i) (.int .u32 (x : Int)) = (spL d c f (stM N i x)).toArray := by
    rcases lt8 hi with rfl | rfl | rfl | rfl | rfl | rfl | rfl | rfl <;> rfl
  rw [e] at this
  exact this
theorem nodup_le : ∀ (n : Nat) (G : List Nat), G.Nodup → (∀ g ∈ G, 2 ≤ g ∧ g ≤ n) → G.length ≤ n - 1
  | 0, G, _, h => by
    cases G with
    | nil => simp
    | cons g G => have := h g (by simp); omega
  | n + 1, G, hnd, h => by
    by_cases hm : n + 1 ∈ G
    · have ih := nodup_le n (G.erase (n + 1)) (hnd.erase _) (fun g hg => by
        have h1 := h g (List.mem_of_mem_erase hg)
        have h2 : g ≠ n + 1 := fun e => by
          subst e
          exact (List.Nodup.not_mem_erase hnd) hg
        omega)
      rw [List.length_erase_of_mem hm] at ih
      have := h _ hm
      omega
    · have ih := nodup_le n G hnd (fun g hg => by
        have h1 := h g hg
        have h2 : g ≠ n + 1 := fun e => hm (e ▸ hg)
        omega)
      omega
theorem look_pl {sv : Value} {w wr : World} {base t pm n K b : Nat} {P : Nat → List UInt8} {v : Value} {S : List Sn} {m : Mo} {Ms : List Mo} {k : Nat} (h : PL w wr base t pm n K b P sv v S m Ms k) (hk : k ≤ 200) : Calls Tryz.prog 43 #[.pointer (some ⟨t, 0, none⟩), .agg (mL m).toArray] wr fun e w' => e = .returned (.bool true) ∧ Below wr.heap.size wr w' := by
  have hbd := h.bd
  have hfr := h.mem.fr
  have htr := h.tr
  have hmd := h.md
  clear h
  obtain ⟨md0, mc, mG, mN, mp, mk⟩ := m
  cases hmd with
  | un hd hc hG hN =>
    simp only at hd hc hG hN hfr hbd
    subst hd; subst hc; subst hG; subst hN
    refine look_core wr t 8 false (.inr ⟨rfl, rfl⟩) 0 mp mk [] zN hfr (by simp) (fun V => Tr sv V t pm 0 P K true) htr (fun V V' a hb => a.later hb) (fun V a => ?_) (fun V a => laid_e V _ _ 8 (FoK.none a)) (fun V a => count_e V t pm 0 a) (fun V i a hi => (get_stop V _ _ 8 (FoK.none a) (by decide) (i : Int)).mono fun e w' hh => ⟨hh.1, hh.2⟩)
    exact (free_stop V _ _ 8 (FoK.none a) (by decide)).mono fun e w' hh => ⟨_, hh.1, World.ownsRow_nil _ _ _ _, hh.2⟩
  | la hd h1 L hL hf hN hc hnd =>
    simp only at hd h1 hf hN hc hnd hfr hbd htr
    subst hd
    refine look_core wr t 0 true (.inl ⟨rfl, rfl⟩) mc mp mk mG mN hfr (by omega) (fun V => Ld sv V t pm mc P K L mN) ⟨htr, h1, hf, hL, hN⟩ (fun V V' a hb => a.later hb) (fun V a => ?_) (fun V a => laid_e V _ _ 0 a.fo) (fun V a => count_e V t pm mc a.tr) (fun V i a hi => get_ok V t pm mc a i hi)
    have hfree : freeR P mc (mc - 1) L = some mG := hc.free _ (nodup_le _ _ hnd hc.all)
    refine (free_e V t pm mc a).mono fun e w' hh => ?_
    rw [hfree] at hh
    exact hh
theorem sv_cast {w : World} {base pm : Nat} {sv : Value} {S S2 : List Sn} (e : S = S2) (h : Sv w base sv S pm) : Sv w base sv S2 pm := e ▸ h
theorem len_facts (d : Nat) (h : d ≤ 300) : IntKind.i64.wrap ((d : Int) + 1 - 1) = (d : Int) ∧ IntKind.i64.wrap (d : Int) = (d : Int) ∧ True ∧ (0 : Int) ≤ (d : Int) ∧ (d : Int) < (d : Int) + 1 ∧ (d : Int) ≤ (d : Int) + 1 := by
  have h1 : IntKind.i64.wrap (d : Int) = (d : Int) := by rw [IntKind.wrap_i64]; omega
  exact ⟨by rw [IntKind.wrap_i64]; omega, h1, trivial, by omega, by omega, by omega⟩
theorem PL.ld {sv : Value} {w wr : World} {base t pm n K b : Nat} {P : Nat → List UInt8} {v : Value} {S : List Sn} {m : Mo} {Ms : List Mo} {k L : Nat} (h : PL w wr base t pm n K b P sv v S m Ms k) (h1 : 1 ≤ n) (hL : L < 4294967296) (hf : rdV (P 1) = fstL L m.N ∧ rdE (P 1) = 0) (hN : ∀ i, m.N i < 4294967296) : Ld sv wr t pm n P K L m.N := ⟨h.tr, h1, hf, hL, hN⟩
set_option maxRecDepth 20000 in
set_option maxHeartbeats 8000000 in
theorem plays_walk (w : World) (p : Option Addr) (len cap : Nat) (D A : Nat → Int) (X : Nat → Nat) (hp : OpP w p len D A X) : Calls Tryz.prog 5 #[.slice p len cap] w fun e w' => e = .returned (.bool true) ∧ Below w.heap.size w w' := by
  have HAw := hide awake_e
  by_cases hbig : 200 < len
  · have l1 : (200 : Int) < (len : Int) := by omega
    go_enter Tryz.func5, Tryz.ntmps5
    go_wp2_with (first
      | (go_at_call 33; (with_reducible refine Calls.mono (HAw.out _) ?_); rintro e w1 ⟨rfl, hb⟩; have HB1 := hide hb; clear hb))
    go_ret
    exact ⟨rfl, HB1.out⟩
  · have l1 : ¬ (200 : Int) < (len : Int) := by omega
    have HO := hide (lopen_e w)
    have HIp := hide hp
    have HLn := hide hbig
    have HIz := hide (infoSp false 0 (.slice none 0 0) zN)
    have HOz := hide (sp_one false 0 none 0 0 zN)
    have HZs := hide zSp
    have HIo := hide infoOp
    clear hp hbig
    go_enter Tryz.func5, Tryz.ntmps5
    go_wp2_with (first
      | (go_at_call 34; (with_reducible refine Calls.mono HO.out ?_); rintro e w1 ⟨t, rfl, pm1, h1, h2, h3, h4⟩; have HT1 := hide h1; have HB1 := hide h2; have HP1 := hide (And.intro h3 h4); clear h1 h2 h3 h4)
      | ((with_reducible refine atSt 66 ?_); refine wp_storeB (c := (spL false 0 (.slice none 0 0) zN).toArray) (z := (spL false 0 (.slice none 0 0) zN).toArray) HIz.out rfl HOz.out (HZs.out _) _ _ (by rfl) (by rfl) (by rfl) (by rfl) ?_; intro W2 hb2 ho2; have HS0 := hide (plays_start HT1.out HB1.out HP1.out hb2 ho2); clear hb2 ho2))
    go_loopw [6, 7] (fun vv kv wr => ∃ (k pm n K : Nat) (P : Nat → List UInt8) (sv : Value) (S : List Sn) (m : Mo) (Ms : List Mo), kv = .int .i64 (k : Int) ∧ k ≤ len ∧ PL w wr W2.heap.size t pm n K w1.heap.size P sv vv S m Ms k) (fun _ kv _ => len - (intOf kv).toNat)
    case atStart => exact ⟨0, _, 0, 0, _, _, [], _, [], rfl, by omega, HS0.out⟩
    case round =>
      obtain ⟨k, pm, n, K, P, sv, S, m, Ms, rfl, hk, hpl⟩ := hrel
      by_cases hlt : k < len
      · have l2 : (k : Int) < (len : Int) := by omega
        have l3 : (0 : Int) ≤ (k : Int) := by omega
        obtain ⟨bo, oo, rfl, hc⟩ := HIp.out (by omega)
        obtain ⟨e0, e1, e2, hX⟩ := hc k hlt
        have o0 := cell_later1 hpl.mem.bel e0
        have o1 := cell_later1 hpl.mem.bel e1
        have o2 := cell_later1 hpl.mem.bel e2
        have hwk : IntKind.i64.wrap ((k : Int) + 1) = ((k + 1 : Nat) : Int) := by have := HLn.out; rw [IntKind.wrap_i64]; omega
        have HPL := hide hpl
        have Hlt := hide hlt
        have Hk2 : Hid (k ≤ 200) := hide (by have := HLn.out; omega)
        obtain ⟨dk, hdk⟩ : ∃ dk, D k = dk := ⟨_, rfl⟩
        obtain ⟨a, ha⟩ : ∃ a, A k = a := ⟨_, rfl⟩
        obtain ⟨x, hx⟩ : ∃ x, X k = x := ⟨_, rfl⟩
        rw [hdk] at o0
        rw [ha] at o1
        rw [hx] at o2 hX
        have HX := hide hX
        clear hc e0 e1 e2 hpl hdk ha hx hlt hX hk
        by_cases d0 : dk = 0
        · subst d0
          obtain hmd := HPL.out.md
          cases hmd with
          | un hd hc hG hN =>
            as_aux_lemma =>
              have HLy := hide (fun V (h : Tr sv V t pm 0 P K true) => lay_ok V t pm h (by have := HPL.out.bd; have := Hk2.out; omega))
              go_wp2_with (first
                | ((with_reducible refine atSt 69 ?_); refine wp_storeB (c := #[.int .i64 0, .int .i64 a, .int .u32 (x : Int)]) (z := #[.int .i64 0, .int .i64 0, .int .u32 0]) HIo.out rfl (op_one _ _ _) (Blk.new _ _ _) _ _ (by rfl) (by rfl) (by rfl) (by rfl) ?_; intro W3 hb3 ho3; have HX3 := hide hb3; have HP3 := hide (HPL.out.later (below_only1 (below_alloc _ _) ho3 (Nat.le_refl _))); obtain ⟨x0, x1, x2⟩ := op_cells hb3; have s0 := HP3.out.mem.sp.c0;  clear hb3 ho3)
                | (go_at_call 35; (with_reducible refine Calls.mono (HLy.out _ HP3.out.tr) ?_); rintro e w5 ⟨rfl, ht, ho⟩; have HT5 := hide (HP3.out.tx ho ht); have s5 := HT5.out.mem.sp.c0; rw [hd] at s5; clear ht ho)
                | ((with_reducible refine atSt 66 ?_); refine wp_storeB (c := (mL ⟨true, 1, [], zN, none, 0⟩).toArray) (z := (mL m).toArray) (infoSp _ _ _ _) rfl (sp_one _ _ _ _ _ _) HT5.out.mem.sp _ _ (by rfl) (by rfl) (by rfl) (by rfl) ?_; intro W6 hb6 ho6; have HP6 := hide (HP3.out.next (m' := ⟨true, 1, [], zN, none, 0⟩) (HT5.out.setB ho6 hb6 (frp_nil _)) (Md.lay P) (by omega) (by omega) (by simp)); clear hb6 ho6))
              go_roundw
              case rel => exact ⟨k + 1, pm, 1, K + 1, _, sv, S, _, Ms, rfl, Hlt.out, HP6.out⟩
              case measure => have := Hlt.out; simp [intOf]; omega
          | la hd h1 L hL hf hN hc hnd =>
            as_aux_lemma =>
              have HLy := hide (fun V (h : Tr sv V t pm m.c P K true) => lay_busy V t pm m.c h h1)
              go_wp2_with (first
                | ((with_reducible refine atSt 69 ?_); refine wp_storeB (c := #[.int .i64 0, .int .i64 a, .int .u32 (x : Int)]) (z := #[.int .i64 0, .int .i64 0, .int .u32 0]) HIo.out rfl (op_one _ _ _) (Blk.new _ _ _) _ _ (by rfl) (by rfl) (by rfl) (by rfl) ?_; intro W3 hb3 ho3; have HX3 := hide hb3; have HP3 := hide (HPL.out.later (below_only1 (below_alloc _ _) ho3 (Nat.le_refl _))); obtain ⟨x0, x1, x2⟩ := op_cells hb3; have s0 := HP3.out.mem.sp.c0;  clear hb3 ho3)
                | (go_at_call 35; (with_reducible refine Calls.mono (HLy.out _ HP3.out.tr) ?_); rintro e w5 ⟨rfl, hb⟩; have HP5 := hide (HP3.out.later hb); have s5 := HP5.out.mem.sp.c0; rw [hd] at s5; clear hb))
              go_roundw
              case rel => exact ⟨k + 1, pm, _, K, _, sv, S, m, Ms, rfl, Hlt.out, HP5.out.up⟩
              case measure => have := Hlt.out; simp [intOf]; omega
        · by_cases d1 : dk = 1
          · subst d1
            obtain hmd := HPL.out.md
            cases hmd with
            | un hd hc hG hN =>
              as_aux_lemma =>
                have HG := hide (fun V (h : Tr sv V t pm 0 P K true) => get_stop V _ _ 8 (FoK.none h) (by decide) a)
                go_wp2_with (first
                  | ((with_reducible refine atSt 69 ?_); refine wp_storeB (c := #[.int .i64 1, .int .i64 a, .int .u32 (x : Int)]) (z := #[.int .i64 0, .int .i64 0, .int .u32 0]) HIo.out rfl (op_one _ _ _) (Blk.new _ _ _) _ _ (by rfl) (by rfl) (by rfl) (by rfl) ?_; intro W3 hb3 ho3; have HX3 := hide hb3; have HP3 := hide (HPL.out.later (below_only1 (below_alloc _ _) ho3 (Nat.le_refl _))); obtain ⟨x0, x1, x2⟩ := op_cells hb3; have s0 := HP3.out.mem.sp.c0;  clear hb3 ho3)
                  | (go_at_call 36; (with_reducible refine Calls.mono (HG.out _ HP3.out.tr) ?_); rintro e w5 ⟨rfl, hb⟩; have HP5 := hide (HP3.out.later hb); have s5 := HP5.out.mem.sp.c0; rw [hd] at s5; obtain ⟨x05, x15, x25⟩ := op_cells (Blk.later HX3.out hb);  clear hb))
                go_roundw
                case rel => exact ⟨k + 1, pm, _, K, _, sv, S, m, Ms, rfl, Hlt.out, HP5.out.up⟩
                case measure => have := Hlt.out; simp [intOf]; omega
            | la hd h1 L hL hf hN hc hnd =>
              by_cases r1 : a < 0
              · skip
                as_aux_lemma =>
                  have HG := hide (fun V (h : Tr sv V t pm m.c P K true) => get_arg V t pm m.c (⟨h, h1, hf, hL, hN⟩ : Ld sv V t pm m.c P K L m.N) a (decide_eq_false (by omega)))
                  go_wp2_with (first
                    | ((with_reducible refine atSt 69 ?_); refine wp_storeB (c := #[.int .i64 1, .int .i64 a, .int .u32 (x : Int)]) (z := #[.int .i64 0, .int .i64 0, .int .u32 0]) HIo.out rfl (op_one _ _ _) (Blk.new _ _ _) _ _ (by rfl) (by rfl) (by rfl) (by rfl) ?_; intro W3 hb3 ho3; have HX3 := hide hb3; have HP3 := hide (HPL.out.later (below_only1 (below_alloc _ _) ho3 (Nat.le_refl _))); obtain ⟨x0, x1, x2⟩ := op_cells hb3; have s0 := HP3.out.mem.sp.c0;  clear hb3 ho3)
                    | (go_at_call 36; (with_reducible refine Calls.mono (HG.out _ HP3.out.tr) ?_); rintro e w5 ⟨rfl, hb⟩; have HP5 := hide (HP3.out.later hb); have s5 := HP5.out.mem.sp.c0; rw [hd] at s5; obtain ⟨x05, x15, x25⟩ := op_cells (Blk.later HX3.out hb);  clear hb))
                  go_roundw
                  case rel => exact ⟨k + 1, pm, _, K, _, sv, S, m, Ms, rfl, Hlt.out, HP5.out.up⟩
                  case measure => have := Hlt.out; simp [intOf]; omega
              · by_cases r2 : 7 < a
                · skip
                  as_aux_lemma =>
                    have HG := hide (fun V (h : Tr sv V t pm m.c P K true) => get_arg V t pm m.c (⟨h, h1, hf, hL, hN⟩ : Ld sv V t pm m.c P K L m.N) a (decide_eq_false (by omega)))
                    go_wp2_with (first
                      | ((with_reducible refine atSt 69 ?_); refine wp_storeB (c := #[.int .i64 1, .int .i64 a, .int .u32 (x : Int)]) (z := #[.int .i64 0, .int .i64 0, .int .u32 0]) HIo.out rfl (op_one _ _ _) (Blk.new _ _ _) _ _ (by rfl) (by rfl) (by rfl) (by rfl) ?_; intro W3 hb3 ho3; have HX3 := hide hb3; have HP3 := hide (HPL.out.later (below_only1 (below_alloc _ _) ho3 (Nat.le_refl _))); obtain ⟨x0, x1, x2⟩ := op_cells hb3; have s0 := HP3.out.mem.sp.c0;  clear hb3 ho3)
                      | (go_at_call 36; (with_reducible refine Calls.mono (HG.out _ HP3.out.tr) ?_); rintro e w5 ⟨rfl, hb⟩; have HP5 := hide (HP3.out.later hb); have s5 := HP5.out.mem.sp.c0; rw [hd] at s5; obtain ⟨x05, x15, x25⟩ := op_cells (Blk.later HX3.out hb);  clear hb))
                    go_roundw
                    case rel => exact ⟨k + 1, pm, _, K, _, sv, S, m, Ms, rfl, Hlt.out, HP5.out.up⟩
                    case measure => have := Hlt.out; simp [intOf]; omega
                · obtain ⟨i, rfl⟩ : ∃ i : Nat, a = (i : Int) := ⟨a.toNat, by omega⟩
                  have hi : i < 8 := by omega
                  have r3 : (i : Int) < 8 := by omega
                  have r4 : (0 : Int) ≤ (i : Int) := by omega
                  as_aux_lemma =>
                    have HG := hide (fun V (h : Tr sv V t pm m.c P K true) => get_ok V t pm m.c (⟨h, h1, hf, hL, hN⟩ : Ld sv V t pm m.c P K L m.N) i hi)
                    have Hi := hide hi
                    go_wp2_with (first
                      | ((with_reducible refine atSt 69 ?_); refine wp_storeB (c := #[.int .i64 1, .int .i64 (i : Int), .int .u32 (x : Int)]) (z := #[.int .i64 0, .int .i64 0, .int .u32 0]) HIo.out rfl (op_one _ _ _) (Blk.new _ _ _) _ _ (by rfl) (by rfl) (by rfl) (by rfl) ?_; intro W3 hb3 ho3; have HX3 := hide hb3; have HP3 := hide (HPL.out.later (below_only1 (below_alloc _ _) ho3 (Nat.le_refl _))); obtain ⟨x0, x1, x2⟩ := op_cells hb3; have s0 := HP3.out.mem.sp.c0;  clear hb3 ho3)
                      | (go_at_call 36; (with_reducible refine Calls.mono (HG.out _ HP3.out.tr) ?_); rintro e w5 ⟨rfl, hb⟩; have HP5 := hide (HP3.out.later hb); have s5 := HP5.out.mem.sp.c0; rw [hd] at s5; obtain ⟨x05, x15, x25⟩ := op_cells (Blk.later HX3.out hb); have n5 := SpB.num HP5.out.mem.sp Hi.out; clear hb))
                    go_roundw
                    case rel => exact ⟨k + 1, pm, _, K, _, sv, S, m, Ms, rfl, Hlt.out, HP5.out.up⟩
                    case measure => have := Hlt.out; simp [intOf]; omega
          · by_cases d2 : dk = 2
            · subst d2
              by_cases r1 : a < 0
              · skip
                as_aux_lemma =>
                  have HG := hide (fun V (h : Tr sv V t pm n P K true) => set_arg V _ h.chK a (x : Int) (decide_eq_false (by omega)))
                  go_wp2_with (first
                    | ((with_reducible refine atSt 69 ?_); refine wp_storeB (c := #[.int .i64 2, .int .i64 a, .int .u32 (x : Int)]) (z := #[.int .i64 0, .int .i64 0, .int .u32 0]) HIo.out rfl (op_one _ _ _) (Blk.new _ _ _) _ _ (by rfl) (by rfl) (by rfl) (by rfl) ?_; intro W3 hb3 ho3; have HX3 := hide hb3; have HP3 := hide (HPL.out.later (below_only1 (below_alloc _ _) ho3 (Nat.le_refl _))); obtain ⟨x0, x1, x2⟩ := op_cells hb3; have s0 := HP3.out.mem.sp.c0;  clear hb3 ho3)
                    | (go_at_call 37; (with_reducible refine Calls.mono (HG.out _ HP3.out.tr) ?_); rintro e w5 ⟨rfl, hb⟩; have HP5 := hide (HP3.out.later hb); have s5 := HP5.out.mem.sp.c0;  obtain ⟨x05, x15, x25⟩ := op_cells (Blk.later HX3.out hb); clear hb))
                  go_roundw
                  case rel => exact ⟨k + 1, pm, _, K, _, sv, S, m, Ms, rfl, Hlt.out, HP5.out.up⟩
                  case measure => have := Hlt.out; simp [intOf]; omega
              · by_cases r2 : 7 < a
                · skip
                  as_aux_lemma =>
                    have HG := hide (fun V (h : Tr sv V t pm n P K true) => set_arg V _ h.chK a (x : Int) (decide_eq_false (by omega)))
                    go_wp2_with (first
                      | ((with_reducible refine atSt 69 ?_); refine wp_storeB (c := #[.int .i64 2, .int .i64 a, .int .u32 (x : Int)]) (z := #[.int .i64 0, .int .i64 0, .int .u32 0]) HIo.out rfl (op_one _ _ _) (Blk.new _ _ _) _ _ (by rfl) (by rfl) (by rfl) (by rfl) ?_; intro W3 hb3 ho3; have HX3 := hide hb3; have HP3 := hide (HPL.out.later (below_only1 (below_alloc _ _) ho3 (Nat.le_refl _))); obtain ⟨x0, x1, x2⟩ := op_cells hb3; have s0 := HP3.out.mem.sp.c0;  clear hb3 ho3)
                      | (go_at_call 37; (with_reducible refine Calls.mono (HG.out _ HP3.out.tr) ?_); rintro e w5 ⟨rfl, hb⟩; have HP5 := hide (HP3.out.later hb); have s5 := HP5.out.mem.sp.c0;  obtain ⟨x05, x15, x25⟩ := op_cells (Blk.later HX3.out hb); clear hb))
                    go_roundw
                    case rel => exact ⟨k + 1, pm, _, K, _, sv, S, m, Ms, rfl, Hlt.out, HP5.out.up⟩
                    case measure => have := Hlt.out; simp [intOf]; omega
                · obtain ⟨i, rfl⟩ : ∃ i : Nat, a = (i : Int) := ⟨a.toNat, by omega⟩
                  have hi : i < 8 := by omega
                  have r3 : (i : Int) < 8 := by omega
                  have r4 : (0 : Int) ≤ (i : Int) := by omega
                  obtain hmd := HPL.out.md
                  cases hmd with
                  | un hd hc hG hN =>
                    as_aux_lemma =>
                      have HG := hide (fun V (h : Tr sv V t pm 0 P K true) => set_bad V _ _ h.chK (FoK.none h) (i : Int) (x : Int) (decide_eq_true (by omega)))
                      go_wp2_with (first
                        | ((with_reducible refine atSt 69 ?_); refine wp_storeB (c := #[.int .i64 2, .int .i64 (i : Int), .int .u32 (x : Int)]) (z := #[.int .i64 0, .int .i64 0, .int .u32 0]) HIo.out rfl (op_one _ _ _) (Blk.new _ _ _) _ _ (by rfl) (by rfl) (by rfl) (by rfl) ?_; intro W3 hb3 ho3; have HX3 := hide hb3; have HP3 := hide (HPL.out.later (below_only1 (below_alloc _ _) ho3 (Nat.le_refl _))); obtain ⟨x0, x1, x2⟩ := op_cells hb3; have s0 := HP3.out.mem.sp.c0;  clear hb3 ho3)
                        | (go_at_call 37; (with_reducible refine Calls.mono (HG.out _ HP3.out.tr) ?_); rintro e w5 ⟨rfl, hb⟩; have HP5 := hide (HP3.out.later hb); have s5 := HP5.out.mem.sp.c0; rw [hd] at s5; obtain ⟨x05, x15, x25⟩ := op_cells (Blk.later HX3.out hb); clear hb))
                      go_roundw
                      case rel => exact ⟨k + 1, pm, _, K, _, sv, S, m, Ms, rfl, Hlt.out, HP5.out.up⟩
                      case measure => have := Hlt.out; simp [intOf]; omega
                  | la hd h1 L hL hf hN hc hnd =>
                    as_aux_lemma =>
                      have HG := hide (fun V (h : Tr sv V t pm m.c P K true) => set_ok V t pm m.c (⟨h, h1, hf, hL, hN⟩ : Ld sv V t pm m.c P K L m.N) (by have := HPL.out.bd; have := Hk2.out; omega) i x hi HX.out)
                      have Hi := hide hi
                      have HMd := hide (Md.set (P := P) (n := m.c) (L := L) (i := i) (x := x) hd h1 hL hN hc hnd HX.out)
                      go_wp2_with (first
                        | ((with_reducible refine atSt 69 ?_); refine wp_storeB (c := #[.int .i64 2, .int .i64 (i : Int), .int .u32 (x : Int)]) (z := #[.int .i64 0, .int .i64 0, .int .u32 0]) HIo.out rfl (op_one _ _ _) (Blk.new _ _ _) _ _ (by rfl) (by rfl) (by rfl) (by rfl) ?_; intro W3 hb3 ho3; have HX3 := hide hb3; have HP3 := hide (HPL.out.later (below_only1 (below_alloc _ _) ho3 (Nat.le_refl _))); obtain ⟨x0, x1, x2⟩ := op_cells hb3; have s0 := HP3.out.mem.sp.c0;  clear hb3 ho3)
                        | (go_at_call 37; (with_reducible refine Calls.mono (HG.out _ HP3.out.tr) ?_); rintro e w5 ⟨rfl, ht, ho⟩; have HT5 := hide (HP3.out.tx ho ht); have s5 := HT5.out.mem.sp.c0; rw [hd] at s5; obtain ⟨x05, x15, x25⟩ := op_cells (HP3.out.tr.apart ho HX3.out (by decide)); have n5 := SpB.num HT5.out.mem.sp Hi.out; have f5 := Blk.frozen HT5.out.mem.sp (3 + i); have HP6 := hide (HP3.out.next (m' := { m with N := stM m.N i x }) (HT5.out.setB (Only.setCell w5 ⟨w1.heap.size, 3 + i, none⟩ (.int .u32 (x : Int))) (SpB.setN HT5.out.mem.sp Hi.out) HT5.out.mem.fr) HMd.out (by omega) (by omega) (by simp)); clear ht ho))
                      go_roundw
                      case rel => exact ⟨k + 1, pm, _, K + 1, _, sv, S, _, Ms, rfl, Hlt.out, HP6.out⟩
                      case measure => have := Hlt.out; simp [intOf]; omega
            · by_cases d3 : dk = 3
              · subst d3
                obtain hmd := HPL.out.md
                obtain ⟨md0, mc, mG, mN, mp, mk⟩ := m
                cases hmd with
                | un hd hc hG hN =>
                  simp only at hd hc hG hN
                  subst hd; subst hc; subst hG; subst hN
                  as_aux_lemma =>
                    have HTk := hide (fun V (h : Tr sv V t pm 0 P K true) => take_stop V _ _ 8 (.on h.chK (FoK.none h)) (by decide))
                    have HRt : Hid (∀ V, Calls Tryz.prog 39 #[.agg (mL (⟨false, 0, [], zN, mp, mk⟩ : Mo)).toArray] V fun e w' => e = .returned (.tuple #[.agg (mL (⟨false, 0, [], zN, mp, mk⟩ : Mo)).toArray, .int .i64 0, .int .i64 8]) ∧ Below V.heap.size V w') := hide (fun V => rtake_bad V _ mp 0 mk zN)
                    go_wp2_with (first
                      | ((with_reducible refine atSt 69 ?_); refine wp_storeB (c := #[.int .i64 3, .int .i64 a, .int .u32 (x : Int)]) (z := #[.int .i64 0, .int .i64 0, .int .u32 0]) HIo.out rfl (op_one _ _ _) (Blk.new _ _ _) _ _ (by rfl) (by rfl) (by rfl) (by rfl) ?_; intro W3 hb3 ho3; have HX3 := hide hb3; have HP3 := hide (HPL.out.later (below_only1 (below_alloc _ _) ho3 (Nat.le_refl _))); obtain ⟨x0, x1, x2⟩ := op_cells hb3; have s0 := HP3.out.mem.sp.c0;  clear hb3 ho3)
                      | (go_at_call 38; (with_reducible refine Calls.mono (HTk.out _ HP3.out.tr) ?_); rintro e w5 ⟨rfl, hb⟩; have HP5 := hide (HP3.out.later hb); clear hb)
                      | ((with_reducible refine atLd 66 ?_); refine wp_loadB (c := (mL (⟨false, 0, [], zN, mp, mk⟩ : Mo)).toArray) (infoSp _ _ _ _) uSp HP5.out.mem.sp _ (by rfl) (by rfl) (by rfl) ?_)
                      | (go_at_call 39; (with_reducible refine Calls.mono (HRt.out _) ?_); rintro e w7 ⟨rfl, hb⟩; have HP7 := hide (HP5.out.later hb); have HZ7 := hide (zSp w7); clear hb)
                      | ((with_reducible refine atSt 66 ?_); refine wp_storeB (c := (mL (⟨false, 0, [], zN, mp, mk⟩ : Mo)).toArray) (z := (spL false 0 (.slice none 0 0) zN).toArray) (infoSp _ _ _ _) rfl (sp_one _ _ _ _ _ _) HZ7.out _ _ (by rfl) (by rfl) (by rfl) (by rfl) ?_; intro W8 hb9 ho9; have HK8 := hide hb9; have HP8 := hide (HP7.out.later (below_only1 (below_alloc _ _) ho9 (Nat.le_refl _))); clear hb9 ho9)
                      | ((with_reducible refine atLd 66 ?_); refine wp_loadB (c := (mL (⟨false, 0, [], zN, mp, mk⟩ : Mo)).toArray) (infoSp _ _ _ _) uSp HK8.out _ (by rfl) (by rfl) (by rfl) ?_)
                      | ((with_reducible refine atSt 66 ?_); refine wp_storeB (c := (mL (⟨false, 0, [], zN, mp, mk⟩ : Mo)).toArray) (z := (mL (⟨false, 0, [], zN, mp, mk⟩ : Mo)).toArray) (infoSp _ _ _ _) rfl (sp_one _ _ _ _ _ _) HP8.out.mem.sp _ _ (by rfl) (by rfl) (by rfl) (by rfl) ?_; intro W9 hb9 ho9; have HP9 := hide (HP8.out.next (m' := (⟨false, 0, [], zN, mp, mk⟩ : Mo)) (HP8.out.pt.setB ho9 hb9 HP8.out.mem.fr) HP8.out.md (by omega) (by omega) (by simp)); clear hb9 ho9))
                    go_roundw
                    case rel => exact ⟨k + 1, pm, _, K, _, sv, S, _, Ms, rfl, Hlt.out, HP9.out⟩
                    case measure => have := Hlt.out; simp [intOf]; omega
                | la hd h1 L hL hf hN hc hnd =>
                  simp only at hd h1 hf hN hc hnd
                  subst hd
                  cases mG with
                  | nil =>
                    obtain rfl := ch_nil hc
                    as_aux_lemma =>
                      have HTk := hide (fun V (h : Tr sv V t pm mc P K true) => take_more V t pm mc (⟨h, h1, hf, hL, hN⟩ : Ld sv V t pm mc P K 0 mN) (by have h1 := HPL.out.bd; have h2 := Hk2.out; simp only at h1; omega) (by have h1 := HPL.out.bd; have h2 := Hk2.out; simp only at h1; omega))
                      have HRt : Hid (∀ V, Calls Tryz.prog 39 #[.agg (mL (⟨true, mc, [], mN, mp, mk⟩ : Mo)).toArray] V fun e w' => e = .returned (.tuple #[.agg (mL (⟨true, mc + 1, [], mN, mp, mk⟩ : Mo)).toArray, .int .i64 ((mc : Int) + 1), .int .i64 0]) ∧ Below V.heap.size V w') := hide (fun V => rtake_more V mc mp mk mN (by have h1 := HPL.out.bd; have h2 := Hk2.out; simp only at h1; omega))
                      have HMd := hide (HPL.out.md.more rfl rfl)
                      go_wp2_with (first
                        | ((with_reducible refine atSt 69 ?_); refine wp_storeB (c := #[.int .i64 3, .int .i64 a, .int .u32 (x : Int)]) (z := #[.int .i64 0, .int .i64 0, .int .u32 0]) HIo.out rfl (op_one _ _ _) (Blk.new _ _ _) _ _ (by rfl) (by rfl) (by rfl) (by rfl) ?_; intro W3 hb3 ho3; have HX3 := hide hb3; have HP3 := hide (HPL.out.later (below_only1 (below_alloc _ _) ho3 (Nat.le_refl _))); obtain ⟨x0, x1, x2⟩ := op_cells hb3; have s0 := HP3.out.mem.sp.c0;  clear hb3 ho3)
                        | (go_at_call 38; (with_reducible refine Calls.mono (HTk.out _ HP3.out.tr) ?_); rintro e w5 ⟨rfl, ht, ho⟩; have HT5 := hide (HP3.out.tx ho ht); clear ht ho)
                        | ((with_reducible refine atLd 66 ?_); refine wp_loadB (c := (mL (⟨true, mc, [], mN, mp, mk⟩ : Mo)).toArray) (infoSp _ _ _ _) uSp HT5.out.mem.sp _ (by rfl) (by rfl) (by rfl) ?_)
                        | (go_at_call 39; (with_reducible refine Calls.mono (HRt.out _) ?_); rintro e w7 ⟨rfl, hb⟩; have HT7 := hide (HT5.out.later hb); have HZ7 := hide (zSp w7); clear hb)
                        | ((with_reducible refine atSt 66 ?_); refine wp_storeB (c := (mL (⟨true, mc + 1, [], mN, mp, mk⟩ : Mo)).toArray) (z := (spL false 0 (.slice none 0 0) zN).toArray) (infoSp _ _ _ _) rfl (sp_one _ _ _ _ _ _) HZ7.out _ _ (by rfl) (by rfl) (by rfl) (by rfl) ?_; intro W8 hb9 ho9; have HK8 := hide hb9; have HT8 := hide (HT7.out.later (below_only1 (below_alloc _ _) ho9 (Nat.le_refl _))); clear hb9 ho9)
                        | ((with_reducible refine atLd 66 ?_); refine wp_loadB (c := (mL (⟨true, mc + 1, [], mN, mp, mk⟩ : Mo)).toArray) (infoSp _ _ _ _) uSp HK8.out _ (by rfl) (by rfl) (by rfl) ?_)
                        | ((with_reducible refine atSt 66 ?_); refine wp_storeB (c := (mL (⟨true, mc + 1, [], mN, mp, mk⟩ : Mo)).toArray) (z := (mL (⟨true, mc, [], mN, mp, mk⟩ : Mo)).toArray) (infoSp _ _ _ _) rfl (sp_one _ _ _ _ _ _) HT8.out.mem.sp _ _ (by rfl) (by rfl) (by rfl) (by rfl) ?_; intro W9 hb9 ho9; have HP9 := hide (HP3.out.next (m' := (⟨true, mc + 1, [], mN, mp, mk⟩ : Mo)) (HT8.out.setB ho9 hb9 HT8.out.mem.fr) HMd.out (by omega) (by omega) (by simp)); clear hb9 ho9))
                      go_roundw
                      case rel => exact ⟨k + 1, pm, mc + 1, K + 1, _, sv, S, _, Ms, rfl, Hlt.out, HP9.out⟩
                      case measure => have := Hlt.out; simp [intOf]; omega
                  | cons g G =>
                    obtain rfl := ch_cons hc
                    obtain ⟨a1, a2, a3, _⟩ := hc.take []
                    obtain ⟨fb, fo, hfe, _⟩ := HPL.out.mem.fr.2.2 (by simp)
                    simp only at hfe
                    subst hfe
                    as_aux_lemma =>
                      have HTk := hide (fun V (h : Tr sv V t pm mc P K true) => take_free V t pm mc (⟨h, h1, hf, hL, hN⟩ : Ld sv V t pm mc P K L mN) (by have h1 := HPL.out.bd; have h2 := Hk2.out; simp only at h1; omega) a1 a2 a3 (by have h1 := HPL.out.bd; have h2 := Hk2.out; simp only at h1; omega))
                      have HRt : Hid (∀ V, FrP V (some ⟨fb, fo, none⟩) mk (L :: G) → Calls Tryz.prog 39 #[.agg (mL (⟨true, mc, L :: G, mN, some ⟨fb, fo, none⟩, mk⟩ : Mo)).toArray] V fun e w' => ∃ p', e = .returned (.tuple #[.agg (mL (⟨true, mc, G, mN, p', mk - 1⟩ : Mo)).toArray, .int .i64 (L : Int), .int .i64 0]) ∧ FrP w' p' (mk - 1) G ∧ Below V.heap.size V w') := hide (fun V hf => rtake_some V (mc : Int) fb fo mk L G mN hf (by have h1 := HPL.out.bd; have h2 := Hk2.out; simp at h1; omega))
                      have HMd := hide (fun p' => HPL.out.md.take rfl p' (mk - 1))
                      go_wp2_with (first
                        | ((with_reducible refine atSt 69 ?_); refine wp_storeB (c := #[.int .i64 3, .int .i64 a, .int .u32 (x : Int)]) (z := #[.int .i64 0, .int .i64 0, .int .u32 0]) HIo.out rfl (op_one _ _ _) (Blk.new _ _ _) _ _ (by rfl) (by rfl) (by rfl) (by rfl) ?_; intro W3 hb3 ho3; have HX3 := hide hb3; have HP3 := hide (HPL.out.later (below_only1 (below_alloc _ _) ho3 (Nat.le_refl _))); obtain ⟨x0, x1, x2⟩ := op_cells hb3; have s0 := HP3.out.mem.sp.c0;  clear hb3 ho3)
                        | (go_at_call 38; (with_reducible refine Calls.mono (HTk.out _ HP3.out.tr) ?_); rintro e w5 ⟨rfl, ht, ho⟩; have HT5 := hide (HP3.out.tx ho ht); clear ht ho)
                        | ((with_reducible refine atLd 66 ?_); refine wp_loadB (c := (mL (⟨true, mc, L :: G, mN, some ⟨fb, fo, none⟩, mk⟩ : Mo)).toArray) (infoSp _ _ _ _) uSp HT5.out.mem.sp _ (by rfl) (by rfl) (by rfl) ?_)
                        | (go_at_call 39; (with_reducible refine Calls.mono (HRt.out _ HT5.out.mem.fr) ?_); rintro e w7 ⟨p7, rfl, hfr, hb⟩; have HT7 := hide (HT5.out.later hb); have HF7 := hide hfr; have HZ7 := hide (zSp w7); clear hb hfr)
                        | ((with_reducible refine atSt 66 ?_); refine wp_storeB (c := (mL (⟨true, mc, G, mN, p7, mk - 1⟩ : Mo)).toArray) (z := (spL false 0 (.slice none 0 0) zN).toArray) (infoSp _ _ _ _) rfl (sp_one _ _ _ _ _ _) HZ7.out _ _ (by rfl) (by rfl) (by rfl) (by rfl) ?_; intro W8 hb9 ho9; have HK8 := hide hb9; have hbl := below_only1 (below_alloc _ _) ho9 (Nat.le_refl _); have HT8 := hide (HT7.out.later hbl); have HF8 := hide (HF7.out.later hbl); clear hbl; clear hb9 ho9)
                        | ((with_reducible refine atLd 66 ?_); refine wp_loadB (c := (mL (⟨true, mc, G, mN, p7, mk - 1⟩ : Mo)).toArray) (infoSp _ _ _ _) uSp HK8.out _ (by rfl) (by rfl) (by rfl) ?_)
                        | ((with_reducible refine atSt 66 ?_); refine wp_storeB (c := (mL (⟨true, mc, G, mN, p7, mk - 1⟩ : Mo)).toArray) (z := (mL (⟨true, mc, L :: G, mN, some ⟨fb, fo, none⟩, mk⟩ : Mo)).toArray) (infoSp _ _ _ _) rfl (sp_one _ _ _ _ _ _) HT8.out.mem.sp _ _ (by rfl) (by rfl) (by rfl) (by rfl) ?_; intro W9 hb9 ho9; have HP9 := hide (HP3.out.next (m' := (⟨true, mc, G, mN, p7, mk - 1⟩ : Mo)) (HT8.out.setB ho9 hb9 HF8.out) (HMd.out p7) (by omega) (by omega) (by simp; omega)); clear hb9 ho9))
                      go_roundw
                      case rel => exact ⟨k + 1, pm, mc, K + 1, _, sv, S, _, Ms, rfl, Hlt.out, HP9.out⟩
                      case measure => have := Hlt.out; simp [intOf]; omega
              · by_cases d4 : dk = 4
                · subst d4
                  obtain hmd := HPL.out.md
                  obtain ⟨md0, mc, mG, mN, mp, mk⟩ := m
                  by_cases hin : ∃ g ∈ mG, (g : Int) = a
                  · clear hmd
                    as_aux_lemma =>
                      have HHs : Hid (∀ V, FrP V mp mk mG → Calls Tryz.prog 40 #[.agg (mL (⟨md0, mc, mG, mN, mp, mk⟩ : Mo)).toArray, .int .i64 a] V fun e w' => e = .returned (.bool true) ∧ Below V.heap.size V w') := hide (fun V hf => by have := rhas_e V md0 (mc : Int) mp mk mG mN a hf (by have h1 := HPL.out.bd; have h2 := Hk2.out; simp at h1 ⊢; try omega); rw [decide_eq_true hin] at this; exact this)
                      go_wp2_with (first
                        | ((with_reducible refine atSt 69 ?_); refine wp_storeB (c := #[.int .i64 4, .int .i64 a, .int .u32 (x : Int)]) (z := #[.int .i64 0, .int .i64 0, .int .u32 0]) HIo.out rfl (op_one _ _ _) (Blk.new _ _ _) _ _ (by rfl) (by rfl) (by rfl) (by rfl) ?_; intro W3 hb3 ho3; have HX3 := hide hb3; have HP3 := hide (HPL.out.later (below_only1 (below_alloc _ _) ho3 (Nat.le_refl _))); obtain ⟨x0, x1, x2⟩ := op_cells hb3; have s0 := HP3.out.mem.sp.c0;  clear hb3 ho3)
                        | ((with_reducible refine atLd 66 ?_); refine wp_loadB (c := (mL (⟨md0, mc, mG, mN, mp, mk⟩ : Mo)).toArray) (infoSp _ _ _ _) uSp HP3.out.mem.sp _ (by rfl) (by rfl) (by rfl) ?_)
                        | (go_at_call 40; (with_reducible refine Calls.mono (HHs.out _ HP3.out.mem.fr) ?_); rintro e w5 ⟨rfl, hb⟩; have HP5 := hide (HP3.out.later hb); have HX5 := hide (Blk.later HX3.out hb); obtain ⟨x05, x15, x25⟩ := op_cells (Blk.later HX3.out hb); clear hb))
                      go_roundw
                      case rel => exact ⟨k + 1, pm, n, K, _, sv, S, _, Ms, rfl, Hlt.out, HP5.out.up⟩
                      case measure => have := Hlt.out; simp [intOf]; omega
                  · cases hmd with
                    | un hd hc hG hN =>
                      simp only at hd hc hG hN
                      subst hd; subst hc; subst hG; subst hN
                      as_aux_lemma =>
                        have HHs : Hid (∀ V, FrP V mp mk [] → Calls Tryz.prog 40 #[.agg (mL (⟨false, 0, [], zN, mp, mk⟩ : Mo)).toArray, .int .i64 a] V fun e w' => e = .returned (.bool false) ∧ Below V.heap.size V w') := hide (fun V hf => by have := rhas_e V false ((0 : Nat) : Int) mp mk [] zN a hf (by simp); rw [decide_eq_false hin] at this; exact this)
                        have HGv := hide (fun V (h : Tr sv V t pm 0 P K true) => give_stop V _ _ 8 (.on h.chK (FoK.none h)) (by decide) a)
                        have HRg : Hid (∀ V, Calls Tryz.prog 42 #[.agg (mL (⟨false, 0, [], zN, mp, mk⟩ : Mo)).toArray, .int .i64 a] V fun e w' => e = .returned (.tuple #[.agg (mL (⟨false, 0, [], zN, mp, mk⟩ : Mo)).toArray, .int .i64 8]) ∧ Below V.heap.size V w') := hide (fun V => rgive_bad V _ a mp 0 mk zN)
                        go_wp2_with (first
                          | ((with_reducible refine atSt 69 ?_); refine wp_storeB (c := #[.int .i64 4, .int .i64 a, .int .u32 (x : Int)]) (z := #[.int .i64 0, .int .i64 0, .int .u32 0]) HIo.out rfl (op_one _ _ _) (Blk.new _ _ _) _ _ (by rfl) (by rfl) (by rfl) (by rfl) ?_; intro W3 hb3 ho3; have HX3 := hide hb3; have HP3 := hide (HPL.out.later (below_only1 (below_alloc _ _) ho3 (Nat.le_refl _))); obtain ⟨x0, x1, x2⟩ := op_cells hb3; have s0 := HP3.out.mem.sp.c0;  clear hb3 ho3)
                          | ((with_reducible refine atLd 66 ?_); refine wp_loadB (c := (mL (⟨false, 0, [], zN, mp, mk⟩ : Mo)).toArray) (infoSp _ _ _ _) uSp HP3.out.mem.sp _ (by rfl) (by rfl) (by rfl) ?_)
                          | (go_at_call 40; (with_reducible refine Calls.mono (HHs.out _ HP3.out.mem.fr) ?_); rintro e w5 ⟨rfl, hb⟩; have HP5 := hide (HP3.out.later hb); have HX5 := hide (Blk.later HX3.out hb); obtain ⟨x05, x15, x25⟩ := op_cells (Blk.later HX3.out hb); clear hb)
                          | (go_at_call 41; (with_reducible refine Calls.mono (HGv.out _ HP5.out.tr) ?_); rintro e w6 ⟨rfl, hb⟩; have HP6 := hide (HP5.out.later hb); obtain ⟨x06, x16, x26⟩ := op_cells (Blk.later HX5.out hb); clear hb)
                          | ((with_reducible refine atLd 66 ?_); refine wp_loadB (c := (mL (⟨false, 0, [], zN, mp, mk⟩ : Mo)).toArray) (infoSp _ _ _ _) uSp HP6.out.mem.sp _ (by rfl) (by rfl) (by rfl) ?_)
                          | (go_at_call 42; (with_reducible refine Calls.mono (HRg.out _) ?_); rintro e w7 ⟨rfl, hb⟩; have HP7 := hide (HP6.out.later hb); clear hb)
                          | ((with_reducible refine atSt 66 ?_); refine wp_storeB (c := (mL (⟨false, 0, [], zN, mp, mk⟩ : Mo)).toArray) (z := (mL (⟨false, 0, [], zN, mp, mk⟩ : Mo)).toArray) (infoSp _ _ _ _) rfl (sp_one _ _ _ _ _ _) HP7.out.mem.sp _ _ (by rfl) (by rfl) (by rfl) (by rfl) ?_; intro W9 hb9 ho9; have HP9 := hide (HP7.out.next (m' := (⟨false, 0, [], zN, mp, mk⟩ : Mo)) (HP7.out.pt.setB ho9 hb9 HP7.out.mem.fr) HP7.out.md (by omega) (by omega) (by simp)); clear hb9 ho9))
                        go_roundw
                        case rel => exact ⟨k + 1, pm, _, K, _, sv, S, _, Ms, rfl, Hlt.out, HP9.out⟩
                        case measure => have := Hlt.out; simp [intOf]; omega
                    | la hd h1 L hL hf hN hc hnd =>
                      simp only at hd h1 hf hN hc hnd
                      subst hd
                      cases hm : mbF a (mc : Int) with
                      | false =>
                        skip
                        as_aux_lemma =>
                          have HHs : Hid (∀ V, FrP V mp mk mG → Calls Tryz.prog 40 #[.agg (mL (⟨true, mc, mG, mN, mp, mk⟩ : Mo)).toArray, .int .i64 a] V fun e w' => e = .returned (.bool false) ∧ Below V.heap.size V w') := hide (fun V hf => by have := rhas_e V true (mc : Int) mp mk mG mN a hf (by have h1 := HPL.out.bd; have h2 := Hk2.out; simp at h1 ⊢; try omega); rw [decide_eq_false hin] at this; exact this)
                          have HGv := hide (fun V (h : Tr sv V t pm mc P K true) => give_arg V t pm mc (⟨h, h1, hf, hL, hN⟩ : Ld sv V t pm mc P K L mN) a hm)
                          have HRg : Hid (∀ V, Calls Tryz.prog 42 #[.agg (mL (⟨true, mc, mG, mN, mp, mk⟩ : Mo)).toArray, .int .i64 a] V fun e w' => e = .returned (.tuple #[.agg (mL (⟨true, mc, mG, mN, mp, mk⟩ : Mo)).toArray, .int .i64 2]) ∧ Below V.heap.size V w') := hide (fun V => rgive_arg V _ a mp mG.length mk mN hm)
                          go_wp2_with (first
                            | ((with_reducible refine atSt 69 ?_); refine wp_storeB (c := #[.int .i64 4, .int .i64 a, .int .u32 (x : Int)]) (z := #[.int .i64 0, .int .i64 0, .int .u32 0]) HIo.out rfl (op_one _ _ _) (Blk.new _ _ _) _ _ (by rfl) (by rfl) (by rfl) (by rfl) ?_; intro W3 hb3 ho3; have HX3 := hide hb3; have HP3 := hide (HPL.out.later (below_only1 (below_alloc _ _) ho3 (Nat.le_refl _))); obtain ⟨x0, x1, x2⟩ := op_cells hb3; have s0 := HP3.out.mem.sp.c0;  clear hb3 ho3)
                            | ((with_reducible refine atLd 66 ?_); refine wp_loadB (c := (mL (⟨true, mc, mG, mN, mp, mk⟩ : Mo)).toArray) (infoSp _ _ _ _) uSp HP3.out.mem.sp _ (by rfl) (by rfl) (by rfl) ?_)
                            | (go_at_call 40; (with_reducible refine Calls.mono (HHs.out _ HP3.out.mem.fr) ?_); rintro e w5 ⟨rfl, hb⟩; have HP5 := hide (HP3.out.later hb); have HX5 := hide (Blk.later HX3.out hb); obtain ⟨x05, x15, x25⟩ := op_cells (Blk.later HX3.out hb); clear hb)
                            | (go_at_call 41; (with_reducible refine Calls.mono (HGv.out _ HP5.out.tr) ?_); rintro e w6 ⟨rfl, hb⟩; have HP6 := hide (HP5.out.later hb); obtain ⟨x06, x16, x26⟩ := op_cells (Blk.later HX5.out hb); clear hb)
                            | ((with_reducible refine atLd 66 ?_); refine wp_loadB (c := (mL (⟨true, mc, mG, mN, mp, mk⟩ : Mo)).toArray) (infoSp _ _ _ _) uSp HP6.out.mem.sp _ (by rfl) (by rfl) (by rfl) ?_)
                            | (go_at_call 42; (with_reducible refine Calls.mono (HRg.out _) ?_); rintro e w7 ⟨rfl, hb⟩; have HP7 := hide (HP6.out.later hb); clear hb)
                            | ((with_reducible refine atSt 66 ?_); refine wp_storeB (c := (mL (⟨true, mc, mG, mN, mp, mk⟩ : Mo)).toArray) (z := (mL (⟨true, mc, mG, mN, mp, mk⟩ : Mo)).toArray) (infoSp _ _ _ _) rfl (sp_one _ _ _ _ _ _) HP7.out.mem.sp _ _ (by rfl) (by rfl) (by rfl) (by rfl) ?_; intro W9 hb9 ho9; have HP9 := hide (HP7.out.next (m' := (⟨true, mc, mG, mN, mp, mk⟩ : Mo)) (HP7.out.pt.setB ho9 hb9 HP7.out.mem.fr) HP7.out.md (by omega) (by omega) (by simp)); clear hb9 ho9))
                          go_roundw
                          case rel => exact ⟨k + 1, pm, _, K, _, sv, S, _, Ms, rfl, Hlt.out, HP9.out⟩
                          case measure => have := Hlt.out; simp [intOf]; omega
                      | true =>
                        have hr := of_decide_eq_true hm
                        obtain ⟨y, rfl⟩ : ∃ y : Nat, a = (y : Int) := ⟨a.toNat, by omega⟩
                        have y2 : 2 ≤ y := by omega
                        have y3 : y ≤ mc := by omega
                        have y4 : y < 4294967296 := by have := HPL.out.tr.few; simp only at this; omega
                        have hnin : y ∉ mG := fun h => hin ⟨y, h, rfl⟩
                        as_aux_lemma =>
                          have HHs : Hid (∀ V, FrP V mp mk mG → Calls Tryz.prog 40 #[.agg (mL (⟨true, mc, mG, mN, mp, mk⟩ : Mo)).toArray, .int .i64 (y : Int)] V fun e w' => e = .returned (.bool false) ∧ Below V.heap.size V w') := hide (fun V hf => by have := rhas_e V true (mc : Int) mp mk mG mN (y : Int) hf (by have h1 := HPL.out.bd; have h2 := Hk2.out; simp at h1 ⊢; try omega); rw [decide_eq_false hin] at this; exact this)
                          have hgm := fun p' k' => Md.give (m := (⟨true, mc, mG, mN, mp, mk⟩ : Mo)) rfl h1 hL hN hc hnd y2 y3 hnin y4 p' k'
                          have HGv := hide (fun V (h : Tr sv V t pm mc P K true) => give_e V t pm mc (⟨h, h1, hf, hL, hN⟩ : Ld sv V t pm mc P K L mN) (by have h1 := HPL.out.bd; have h2 := Hk2.out; simp only at h1; omega) y y2 y3)
                          rw [(hgm none 0).1] at HGv
                          have HMd := hide (fun p' k' => (hgm p' k').2)
                          have HRg : Hid (∀ V, FrP V mp mk mG → Calls Tryz.prog 42 #[.agg (mL (⟨true, mc, mG, mN, mp, mk⟩ : Mo)).toArray, .int .i64 (y : Int)] V fun e w' => ∃ p' k', e = .returned (.tuple #[.agg (mL (⟨true, mc, y :: mG, mN, p', k'⟩ : Mo)).toArray, .int .i64 0]) ∧ RgW V w' p' k' (y :: mG)) := hide (fun V hf => rgive_ok V mc y mp mk mG mN hf (by have h1 := HPL.out.bd; have h2 := Hk2.out; simp at h1 ⊢; try omega) y2 y3)
                          clear hgm
                          go_wp2_with (first
                            | ((with_reducible refine atSt 69 ?_); refine wp_storeB (c := #[.int .i64 4, .int .i64 (y : Int), .int .u32 (x : Int)]) (z := #[.int .i64 0, .int .i64 0, .int .u32 0]) HIo.out rfl (op_one _ _ _) (Blk.new _ _ _) _ _ (by rfl) (by rfl) (by rfl) (by rfl) ?_; intro W3 hb3 ho3; have HX3 := hide hb3; have HP3 := hide (HPL.out.later (below_only1 (below_alloc _ _) ho3 (Nat.le_refl _))); obtain ⟨x0, x1, x2⟩ := op_cells hb3; have s0 := HP3.out.mem.sp.c0;  clear hb3 ho3)
                            | ((with_reducible refine atLd 66 ?_); refine wp_loadB (c := (mL (⟨true, mc, mG, mN, mp, mk⟩ : Mo)).toArray) (infoSp _ _ _ _) uSp HP3.out.mem.sp _ (by rfl) (by rfl) (by rfl) ?_)
                            | (go_at_call 40; (with_reducible refine Calls.mono (HHs.out _ HP3.out.mem.fr) ?_); rintro e w5 ⟨rfl, hb⟩; have HP5 := hide (HP3.out.later hb); have HX5 := hide (Blk.later HX3.out hb); obtain ⟨x05, x15, x25⟩ := op_cells (Blk.later HX3.out hb); clear hb)
                            | (go_at_call 41; (with_reducible refine Calls.mono (HGv.out _ HP5.out.tr) ?_); rintro e w6 ⟨rfl, ht, ho⟩; have HT6 := hide (HP5.out.tx ho ht); obtain ⟨x06, x16, x26⟩ := op_cells (HP5.out.tr.apart ho HX5.out (by decide)); clear ht ho)
                            | ((with_reducible refine atLd 66 ?_); refine wp_loadB (c := (mL (⟨true, mc, mG, mN, mp, mk⟩ : Mo)).toArray) (infoSp _ _ _ _) uSp HT6.out.mem.sp _ (by rfl) (by rfl) (by rfl) ?_)
                            | (go_at_call 42; (with_reducible refine Calls.mono (HRg.out _ HT6.out.mem.fr) ?_); rintro e w7 ⟨p7, k7, rfl, hr⟩; have HT7 := hide (HT6.out.later hr.bel); have HF7 := hide hr.fr; clear hr)
                            | ((with_reducible refine atSt 66 ?_); refine wp_storeB (c := (mL (⟨true, mc, y :: mG, mN, p7, k7⟩ : Mo)).toArray) (z := (mL (⟨true, mc, mG, mN, mp, mk⟩ : Mo)).toArray) (infoSp _ _ _ _) rfl (sp_one _ _ _ _ _ _) HT7.out.mem.sp _ _ (by rfl) (by rfl) (by rfl) (by rfl) ?_; intro W9 hb9 ho9; have HP9 := hide (HP5.out.next (m' := (⟨true, mc, y :: mG, mN, p7, k7⟩ : Mo)) (HT7.out.setB ho9 hb9 HF7.out) (HMd.out p7 k7) (by simp only [lfK]; omega) (by omega) (by simp)); clear hb9 ho9))
                          go_roundw
                          case rel => exact ⟨k + 1, pm, mc, _, _, sv, S, _, Ms, rfl, Hlt.out, HP9.out⟩
                          case measure => have := Hlt.out; simp [intOf]; omega
                · by_cases d5 : dk = 5
                  · subst d5
                    as_aux_lemma =>
                      have HSv := hide (fun V (h : Tr sv V t pm n P K true) (hs : Sv V W2.heap.size sv S pm) (hb : W2.heap.size ≤ V.heap.size) => save_e V t pm n W2.heap.size h hs hb (by have h1 := HPL.out.bd; have h2 := Hk2.out; have h3 := HPL.out.len; omega))
                      have HMl : Hid (Ms.length ≤ 1000) := hide (by have h1 := HPL.out.bd; have h2 := Hk2.out; omega)
                      go_wp2_with (first
                        | ((with_reducible refine atSt 69 ?_); refine wp_storeB (c := #[.int .i64 5, .int .i64 a, .int .u32 (x : Int)]) (z := #[.int .i64 0, .int .i64 0, .int .u32 0]) HIo.out rfl (op_one _ _ _) (Blk.new _ _ _) _ _ (by rfl) (by rfl) (by rfl) (by rfl) ?_; intro W3 hb3 ho3; have HX3 := hide hb3; have HP3 := hide (HPL.out.later (below_only1 (below_alloc _ _) ho3 (Nat.le_refl _))); obtain ⟨x0, x1, x2⟩ := op_cells hb3; have s0 := HP3.out.mem.sp.c0;  clear hb3 ho3)
                        | (go_at_call 13; (with_reducible refine Calls.mono (HSv.out _ HP3.out.tr HP3.out.ss HP3.out.mem.bs) ?_); rintro e w5 ⟨sv5, q5, rfl, hw⟩; have HM5 := hide (HP3.out.mem.only hw.on (low_sv HP3.out.ss HP3.out.lo.1 HP3.out.lo.2.2) (far_sv HP3.out.tr HP3.out.ss)); have HW5 := hide hw; have HM6 := hide (HM5.out.later (below_alloc w5 (.cells (mL m).toArray 66))); clear hw)
                        | ((with_reducible refine atLd 66 ?_); refine wp_loadB (c := (mL m).toArray) (infoSp _ _ _ _) uSp HM5.out.sp _ (by rfl) (by rfl) (by rfl) ?_)
                        | ((with_reducible refine atBs 67 ?_); refine wp_bsSp m _ (by rfl) (by rfl) (by rfl) ?_)
                        | (at_builtin; refine wp_appSp (W := w5) m HM6.out.row HMl.out HM6.out.bs _ _ (by rfl) (by rfl) (by rfl) (by rfl) ?_; intro v7 w7 ho7 hg7; have HP7 := hide (HP3.out.saved HW5.out HM6.out ho7 hg7); clear ho7 hg7))
                      go_roundw
                      case rel => exact ⟨k + 1, pm, n, K, P, sv5, _, m, _, rfl, Hlt.out, HP7.out⟩
                      case measure => have := Hlt.out; simp [intOf]; omega
                  · by_cases d6 : dk = 6
                    · subst d6
                      obtain ⟨pv, cv, hv, hvc, hvn, hvs⟩ := own_formC HPL.out.mem.row
                      subst hv
                      rcases List.eq_nil_or_concat Ms with hM | ⟨Ms0, m0, hM⟩
                      · subst hM
                        have hS := HPL.out.len
                        have hS2 : S = [] := List.eq_nil_of_length_eq_zero (by simpa using hS)
                        subst hS2
                        clear hS hvc hvn hvs
                        as_aux_lemma =>
                          have HBk : Hid (∀ V, Tr sv V t pm n P K true → Sv V W2.heap.size sv [] pm → W2.heap.size ≤ V.heap.size → Calls Tryz.prog 17 #[.pointer (some ⟨t, 0, none⟩), .int .i64 0] V fun e w' => e = .returned (.int .i64 4) ∧ Below V.heap.size V w') := hide (fun V h hs hb => back_e V t pm n W2.heap.size 0 h hs (.none (by decide)) (by simp) hb)
                          go_wp2_with (first
                            | ((with_reducible refine atSt 69 ?_); refine wp_storeB (c := #[.int .i64 6, .int .i64 a, .int .u32 (x : Int)]) (z := #[.int .i64 0, .int .i64 0, .int .u32 0]) HIo.out rfl (op_one _ _ _) (Blk.new _ _ _) _ _ (by rfl) (by rfl) (by rfl) (by rfl) ?_; intro W3 hb3 ho3; have HX3 := hide hb3; have HP3 := hide (HPL.out.later (below_only1 (below_alloc _ _) ho3 (Nat.le_refl _))); obtain ⟨x0, x1, x2⟩ := op_cells hb3; have s0 := HP3.out.mem.sp.c0;  clear hb3 ho3)
                            | (go_at_call 17; (with_reducible refine Calls.mono (HBk.out _ HP3.out.tr HP3.out.ss HP3.out.mem.bs) ?_); rintro e w5 ⟨rfl, hb⟩; have HP5 := hide (HP3.out.later hb); clear hb))
                          go_roundw
                          case rel => exact ⟨k + 1, pm, n, K, P, sv, [], m, [], rfl, Hlt.out, HP5.out.up⟩
                          case measure => have := Hlt.out; simp [intOf]; omega
                      · rw [List.concat_eq_append] at hM
                        subst hM
                        have hS := HPL.out.len
                        rcases List.eq_nil_or_concat S with hS2 | ⟨S0, s0, hS2⟩
                        · subst hS2; simp at hS
                        rw [List.concat_eq_append] at hS2
                        subst hS2
                        have hSe : S0.length = Ms0.length := by simpa using hS
                        obtain ⟨gv, hgv⟩ : ∃ gv, pv = some ⟨gv, 0, none⟩ := by
                          rcases hvs with h | h
                          · simp at h
                          · exact h
                        subst hgv
                        have hMl : Ms0.length ≤ 300 := by have h1 := HPL.out.bd; have h2 := Hk2.out; simp only [List.length_append, List.length_singleton] at h1; omega
                        have hSl : (S0 ++ [s0]).length ≤ 2000 := by simp; omega
                        have hS0 : (S0 ++ [s0])[Ms0.length]? = some s0 := by rw [← hSe]; simp
                        have g11 : (Ms0.length : Int) ≤ (cv : Int) := by simp at hvc; omega
                        have g12 : (Ms0.length : Int) + 1 ≤ (cv : Int) := by simp at hvc; omega
                        clear hS hvc hvn hvs
                        as_aux_lemma =>
                          have HBk : Hid (∀ V, Tr sv V t pm n P K true → Sv V W2.heap.size sv (S0 ++ [s0]) pm → W2.heap.size ≤ V.heap.size → Calls Tryz.prog 17 #[.pointer (some ⟨t, 0, none⟩), .int .i64 ((Ms0.length : Int) + 1)] V fun e w' => e = .returned (.int .i64 0) ∧ ∃ sv5 q, V.heap.size ≤ q ∧ FgW V w' t q s0.n W2.heap.size s0.P s0.K true sv sv5 (S0 ++ [s0]) (Ms0.length + 1)) := hide (fun V h hs hb => back_e V t pm n W2.heap.size ((Ms0.length : Int) + 1) h hs (.some hS0) hSl hb)
                          have HRl : Hid (∀ (V : World) (sv5 : Value) (q : Nat), Tr sv5 V t q s0.n s0.P s0.K true → Sv V W2.heap.size sv5 (S0 ++ [s0]) q → Calls Tryz.prog 18 #[.pointer (some ⟨t, 0, none⟩), .int .i64 ((Ms0.length : Int) + 1)] V fun e w' => e = .returned (.int .i64 0) ∧ ∃ sv6, FgW V w' t q s0.n W2.heap.size s0.P s0.K true sv5 sv6 (S0 ++ [s0]) Ms0.length) := hide (fun V sv5 q h hs => release_e V t q s0.n W2.heap.size (Ms0.length + 1) h hs (by omega) (by simp; omega) hSl)
                          have HTk : Hid ((S0 ++ [s0]).take (Ms0.length + 1) = S0 ++ [s0]) := hide (List.take_of_length_le (by simp; omega))
                          have HSe := hide hSe
                          obtain ⟨g7, g13, _, g8, g9, g10⟩ := len_facts Ms0.length hMl
                          have hb0 : ((Ms0.length : Int) + 1 == 0) = false := by simp; omega
                          clear hS0 hSl hSe hMl
                          go_wp2_with (first
                            | ((with_reducible refine atSt 69 ?_); refine wp_storeB (c := #[.int .i64 6, .int .i64 a, .int .u32 (x : Int)]) (z := #[.int .i64 0, .int .i64 0, .int .u32 0]) HIo.out rfl (op_one _ _ _) (Blk.new _ _ _) _ _ (by rfl) (by rfl) (by rfl) (by rfl) ?_; intro W3 hb3 ho3; have HX3 := hide hb3; have HP3 := hide (HPL.out.later (below_only1 (below_alloc _ _) ho3 (Nat.le_refl _))); obtain ⟨x0, x1, x2⟩ := op_cells hb3; have s0 := HP3.out.mem.sp.c0;  clear hb3 ho3)
                            | (go_at_call 17; (with_reducible refine Calls.mono (HBk.out _ HP3.out.tr HP3.out.ss HP3.out.mem.bs) ?_); rintro e w5 ⟨rfl, sv5, q5, hq, hf⟩; have HF5 := hide hf; have HQ5 := hide hq; have HM5 := hide (HP3.out.mem.only hf.on (low_sv HP3.out.ss HP3.out.lo.1 HP3.out.lo.2.2) (far_sv HP3.out.tr HP3.out.ss)); have HS5 := hide (sv_cast HTk.out hf.ss); clear hq hf)
                            | (go_at_call 18; (with_reducible refine Calls.mono (HRl.out _ _ _ HF5.out.tr HS5.out) ?_); rintro e w6 ⟨rfl, sv6, hf⟩; have HF6 := hide hf; have HM6 := hide (HM5.out.only hf.on (low_sv HS5.out HP3.out.lo.1 HP3.out.lo.2.2) (far_sv HF5.out.tr HS5.out)); have HR6 := hide (msL_range HM6.out.row); clear hf)
                            | ((with_reducible refine atLd 66 ?_); refine wpList_load_mid rfl 66 _ rfl gv (Ms0.length * 11) (by rfl) (mL m0) _ HR6.out Tryz.underlying66 rfl (infoSp _ _ _ _) ?_)
                            | ((with_reducible refine atSt 66 ?_); refine wp_storeB (c := (mL m0).toArray) (z := (mL m).toArray) (infoSp _ _ _ _) rfl (sp_one _ _ _ _ _ _) HM6.out.sp _ _ (by rfl) (by rfl) (by rfl) (by rfl) ?_; intro W9 hb9 ho9; have HP9 := hide (HP3.out.backed HSe.out HQ5.out HF5.out HF6.out HM6.out ho9 hb9); clear hb9 ho9))
                          go_roundw
                          case rel => exact ⟨k + 1, q5, _, _, _, sv6, S0, m0, Ms0, rfl, Hlt.out, HP9.out⟩
                          case measure => have := Hlt.out; simp [intOf]; omega
                    · skip
                      as_aux_lemma =>
                        go_wp2_with (first
                          | ((with_reducible refine atSt 69 ?_); refine wp_storeB (c := #[.int .i64 dk, .int .i64 a, .int .u32 (x : Int)]) (z := #[.int .i64 0, .int .i64 0, .int .u32 0]) HIo.out rfl (op_one _ _ _) (Blk.new _ _ _) _ _ (by rfl) (by rfl) (by rfl) (by rfl) ?_; intro W3 hb3 ho3; have HX3 := hide hb3; have HP3 := hide (HPL.out.later (below_only1 (below_alloc _ _) ho3 (Nat.le_refl _))); obtain ⟨x0, x1, x2⟩ := op_cells hb3; have s0 := HP3.out.mem.sp.c0;  clear hb3 ho3))
                        go_roundw
                        case rel => exact ⟨k + 1, pm, n, K, P, sv, S, m, Ms, rfl, Hlt.out, HP3.out.up⟩
                        case measure => have := Hlt.out; simp [intOf]; omega
      · have l2 : ¬ (k : Int) < (len : Int) := by omega
        have HPL := hide hpl
        have HLk := hide (look_pl hpl (by have := HLn.out; omega))
        clear hpl
        go_wp2_with (first
          | ((with_reducible refine atLd 66 ?_); refine wp_loadB (c := (mL m).toArray) (infoSp _ _ _ _) uSp HPL.out.mem.sp _ (by rfl) (by rfl) (by rfl) ?_)
          | (go_at_call 43; (with_reducible refine Calls.mono HLk.out ?_); rintro e w5 ⟨rfl, hb⟩; have HB5 := hide (below_trans HPL.out.mem.bel hb); clear hb)
          | (go_at_call 33; (with_reducible refine Calls.mono (HAw.out _) ?_); rintro e w6 ⟨rfl, hb⟩; have HB6 := hide (below_trans HB5.out hb); clear hb))
        go_ret
        exact ⟨rfl, HB6.out⟩
end Go.Proofs.YtenfjbcigkolaaaGreat
