/- SpacePlays: look. -/
/- SpacePlays: what lies in memory; what the model says of the pages. -/
/- SpacePlays: the state between two calls. -/
/- SpacePlays: savepoints. -/
import Derived.Test.YtenfjbcigkolaaaGreatZP
import Derived.Laws.OwnMore
import Derived.WalkSmall
import Derived.Great.BuildSlice
import Derived.Maps.AppendAt
namespace Go.Proofs.YtenfjbcigkolaaaGreat
variable {sv : Value}
open Go.ChangeShapes Go.WideShapes Go.ChangeAt Go.RowKit Go.Maps
set_option linter.unusedVariables false

theorem own_cellI {w : World} {base c : Nat} {p : Option Addr} {H : List Nat} (h : w.ownsRow base 3 1 (.slice p H.length c) H.length (inL H)) {j x : Nat} (hj : H[j]? = some x) : ∃ g, p = some ⟨g, 0, none⟩ ∧ w.cell? ⟨g, j, none⟩ = some (.int .i64 (x : Int)) := by
  have hlt : j < H.length := (List.getElem?_eq_some_iff.1 hj).1
  rcases h.2 with ⟨e, h0⟩ | ⟨g, cap, cur, e, _⟩
  · omega
  · injection e with e1 e2 e3
    subst e1
    refine ⟨g, rfl, (h.cellAt j (by omega)).trans ?_⟩
    simp [inL, hj]
theorem wrap_up (j m : Nat) (h : j < m) (hm : m ≤ 5000) : IntKind.i64.wrap ((j : Int) + 1) = ((j + 1 : Nat) : Int) := by rw [IntKind.wrap_i64]; omega
theorem spS {w : World} {b : Nat} {d : Bool} {c : Int} {f : Value} {N : Nat → Nat} (h : SpB w b d c f N) : w.cell? ⟨b, 1, none⟩ = some (.int .i64 c) ∧ w.cell? ⟨b, 2, none⟩ = some f := ⟨h.c1, h.c2⟩
set_option maxRecDepth 20000 in
set_option maxHeartbeats 4000000 in
theorem look_core (w : World) (t : Nat) (E : Int) (d : Bool) (hE : (E = 0 ∧ d = true) ∨ (E = 8 ∧ d = false)) (c : Nat) (p : Option Addr) (cap : Nat) (G : List Nat) (N : Nat → Nat) (hf : FrP w p cap G) (hG : G.length ≤ 5000) (A : World → Prop) (h0 : A w) (hA : ∀ V V', A V → Below V.heap.size V V' → A V')
    (CF : ∀ V, A V → Calls Tryz.prog 44 #[.pointer (some ⟨t, 0, none⟩)] V fun e w' => ∃ v, e = .returned (.tuple #[v, .int .i64 E]) ∧ w'.ownsRow V.heap.size 3 1 v G.length (inL G) ∧ Below V.heap.size V w')
    (CL : ∀ V, A V → Calls Tryz.prog 45 #[.pointer (some ⟨t, 0, none⟩)] V fun e w' => e = .returned (.int .i64 E) ∧ Below V.heap.size V w')
    (CC : ∀ V, A V → Calls Tryz.prog 21 #[.pointer (some ⟨t, 0, none⟩)] V fun e w' => e = .returned (.int .i64 (c : Int)) ∧ Below V.heap.size V w')
    (CG : ∀ V (i : Nat), A V → i < 8 → Calls Tryz.prog 36 #[.pointer (some ⟨t, 0, none⟩), .int .i64 (i : Int)] V fun e w' => e = .returned (.tuple #[.int .u32 (N i : Int), .int .i64 E]) ∧ Below V.heap.size V w') :
    Calls Tryz.prog 43 #[.pointer (some ⟨t, 0, none⟩), .agg (spL d (c : Int) (.slice p G.length cap) N).toArray] w fun e w' => e = .returned (.bool true) ∧ Below w.heap.size w w' := by
  obtain ⟨W, hW⟩ : ∃ W, W = w.alloc (.cells (spL d (c : Int) (.slice p G.length cap) N).toArray 66) := ⟨_, rfl⟩
  have hb : Below w.heap.size w W := by rw [hW]; exact below_alloc _ _
  have k1 : SpB W w.heap.size d (c : Int) (.slice p G.length cap) N := by rw [hW]; exact Blk.new _ _ _
  have HK := hide (fun V (hv : Below W.heap.size W V) => SpB.later k1 hv)
  have HFr := hide (fun V (hv : Below W.heap.size W V) => (hf.later hb).later hv)
  have HAW := hide (hA _ _ h0 hb)
  have HB := hide hb
  have HG := hide hG
  have HA := hide hA
  have HCF := hide CF
  have HCL := hide CL
  have HCC := hide CC
  have HCG := hide CG
  clear hf hG h0 hA CF CL CC CG k1 hb
  rcases hE with ⟨rfl, rfl⟩ | ⟨rfl, rfl⟩
  all_goals
    go_enter Tryz.func43, Tryz.ntmps43
    go_upto_region 1 with fail
    rw [← hW]
    clear hW
    go_upto_region 5 with (first
      | (go_at_call 44; (with_reducible refine Calls.mono (HCF.out _ HAW.out) ?_); rintro e w5 ⟨v, rfl, hov, hb⟩; obtain ⟨pf, cf, rfl, _, _, _⟩ := own_formC hov; have HO5 := hide hov; have HB5 := hide hb; have HA5 := hide (HA.out _ _ HAW.out hb); have c05 := (HK.out _ hb).c0; clear hov hb))
    have HS5 := hide (spS (HK.out _ (below_trans HB5.out (below_drew w5))))
    have HA5d := hide (HA.out _ _ HA5.out (below_drew w5))
    go_region_held3 (fun V => V.cell? ⟨w.heap.size, 1, none⟩ = some (.int .i64 (c : Int)) ∧ V.cell? ⟨w.heap.size, 2, none⟩ = some (.slice p G.length cap)) (first | with_reducible exact HS5.out | with_reducible exact HS6.out | with_reducible exact HS7.out) (first
      | (go_at_call 45; (with_reducible refine Calls.mono (HCL.out _ HA5d.out) ?_); rintro e w6 ⟨rfl, hb⟩; have hb6 := below_trans (below_trans HB5.out (below_drew w5)) hb; have HB6 := hide hb6; have HX6 := hide (below_trans (below_drew w5) hb); have HS6 := hide (spS (HK.out _ hb6)); have HA6 := hide (HA.out _ _ HA5d.out hb); clear hb hb6)
      | (go_at_call 21; (with_reducible refine Calls.mono (HCC.out _ HA6.out) ?_); rintro e w7 ⟨rfl, hb⟩; have hb7 := below_trans HB6.out hb; have HB7 := hide hb7; have HX7 := hide (below_trans HX6.out hb); have HS7 := hide (spS (HK.out _ hb7)); have HA7 := hide (HA.out _ _ HA6.out hb); clear hb hb7))
    go_wp2_with fail
    go_loopw [8] (fun jv wq => ∃ j : Nat, jv = .int .i64 (j : Int) ∧ j ≤ G.length ∧ Below w7.heap.size w7 wq) (fun jv _ => G.length - (intOf jv).toNat)
    case atStart => exact ⟨0, rfl, by omega, below_refl _⟩
    case round =>
      obtain ⟨j, rfl, hj, hbw⟩ := hrel
      by_cases hjl : j < G.length
      · have m1 : (j : Int) < (G.length : Int) := by omega
        have m0 : (0 : Int) ≤ (j : Int) := by omega
        obtain ⟨y, hy⟩ : ∃ y, G[j]? = some y := ⟨G[j], List.getElem?_eq_getElem hjl⟩
        obtain ⟨gg, rfl, cj⟩ := own_cellI HO5.out hy
        obtain ⟨b, o, rfl, _, hc⟩ := (HFr.out _ HB7.out).2.2 (by omega)
        have hbx := below_trans hbw (below_drew wr)
        have HS8 := hide (And.intro (cell_later1 hbx (cell_later1 HX7.out cj)) (And.intro (HK.out _ (below_trans HB7.out hbx)).c2 (cell_later1 hbx (hc j y hy))))
        have hwj := wrap_up j _ hjl HG.out
        have HBx := hide hbx
        clear hc cj hy hbw hbx
        go_upto_region 10 with fail
        go_region_held3 (fun V => V.cell? ⟨gg, j, none⟩ = some (.int .i64 (y : Int)) ∧ V.cell? ⟨w.heap.size, 2, none⟩ = some (.slice (some ⟨b, o, none⟩) G.length cap) ∧ V.cell? ⟨b, o + j, none⟩ = some (.int .i64 (y : Int))) (with_reducible exact HS8.out) (fail)
        go_wp2_with fail
        go_roundw
        case rel => exact ⟨j + 1, rfl, by omega, HBx.out⟩
        case measure => simp [intOf]; omega
      · have m1 : ¬ (j : Int) < (G.length : Int) := by omega
        have HBx := hide hbw
        clear hbw
        go_wp2_with fail
        go_loopw [9] (fun jv wq => ∃ i : Nat, jv = .int .i64 (i : Int) ∧ i ≤ 8 ∧ Below w7.heap.size w7 wq) (fun jv _ => 8 - (intOf jv).toNat)
        case atStart => exact ⟨0, rfl, by omega, HBx.out⟩
        case round =>
          obtain ⟨i, rfl, hi, hbw⟩ := hrel
          by_cases hil : i < 8
          · have n1 : (i : Int) < 8 := by omega
            have n0 : (0 : Int) ≤ (i : Int) := by omega
            have hwi := wrap_up i 8 hil (by omega)
            have HGt := hide (HCG.out _ i (HA.out _ _ HA7.out hbw) hil)
            have HBw := hide hbw
            have Hil := hide hil
            clear hbw
            go_wp2_with (first
              | (go_at_call 36; (with_reducible refine Calls.mono HGt.out ?_); rintro e w9 ⟨rfl, hb⟩; have hb9 := below_trans HBw.out hb; have HB9 := hide hb9; have cn := SpB.num (HK.out _ (below_trans HB7.out hb9)) Hil.out; clear hb hb9))
            go_roundw
            case rel => exact ⟨i + 1, rfl, by omega, HB9.out⟩
            case measure => simp [intOf]; omega
          · have n1 : ¬ (i : Int) < 8 := by omega
            have HBw := hide hbw
            clear hbw
            go_wp2_with fail
            go_ret
            exact ⟨rfl, below_trans HB.out (below_trans HB7.out HBw.out)⟩
end Go.Proofs.YtenfjbcigkolaaaGreat

namespace Go.Proofs.YtenfjbcigkolaaaGreat
variable {sv : Value}
open Go.ChangeShapes Go.WideShapes Go.ChangeAt Go.RowKit Go.Maps
set_option linter.unusedVariables false

/-- A space as the document has it, and where its row of free pages lies. -/
structure Mo where
  d : Bool
  c : Nat
  G : List Nat
  N : Nat → Nat
  p : Option Addr
  k : Nat
def mF (m : Mo) : Value := .slice m.p m.G.length m.k
def mL (m : Mo) : List Value := spL m.d (m.c : Int) (mF m) m.N
def msL (Ms : List Mo) : List Value := Ms.flatMap mL
theorem mL_len (m : Mo) : (mL m).length = 11 := rfl
theorem mL_one (m : Mo) : ∀ u ∈ mL m, u.oneCell' = true := by
  intro v hv
  simp only [mL, mF, spL, nmL, List.mem_cons, List.mem_map] at hv
  rcases hv with rfl | rfl | rfl | ⟨i, _, rfl⟩ <;> rfl
/-- The pages are as the model says. -/
inductive Md (P : Nat → List UInt8) : Nat → Mo → Prop where
  | un {m : Mo} (hd : m.d = false) (hc : m.c = 0) (hG : m.G = []) (hN : m.N = zN) : Md P 0 m
  | la {m : Mo} (hd : m.d = true) (h1 : 1 ≤ m.c) (L : Nat) (hL : L < 4294967296) (hf : rdV (P 1) = fstL L m.N ∧ rdE (P 1) = 0) (hN : ∀ i, m.N i < 4294967296) (hc : Ch P m.c L m.G) (hnd : m.G.Nodup) : Md P m.c m
structure PM (w wr : World) (base b : Nat) (v : Value) (m : Mo) (Ms : List Mo) : Prop where
  bel : Below w.heap.size w wr
  sp : SpB wr b m.d (m.c : Int) (mF m) m.N
  fr : FrP wr m.p m.k m.G
  row : wr.ownsRow base 66 11 v Ms.length (msL Ms)
  frs : ∀ x ∈ Ms, FrP wr x.p x.k x.G
  bb : w.heap.size ≤ b ∧ b < base
  bs : base ≤ wr.heap.size
def FarX (wr : World) (X : List Nat) : Prop := ∀ k ∈ X, (∃ c ty, Blk wr k c ty ∧ ty ≠ 3 ∧ ty ≠ 66) ∨ ∃ es cl, wr.heap[k]? = some (.map es cl)
theorem FarX.no {wr : World} {X : List Nat} (h : FarX wr X) {b : Nat} {c : Array Value} {ty : TypeId} (hb : Blk wr b c ty) (ht : ty = 3 ∨ ty = 66) : b ∉ X := fun hm => by
  rcases h b hm with ⟨c', ty', hb', n1, n2⟩ | ⟨es, cl, he⟩
  · have : ty = ty' := by
      have := hb.symm.trans hb'
      injection this with this
      injection this
    subst this
    rcases ht with rfl | rfl
    · exact n1 rfl
    · exact n2 rfl
  · exact blk_map hb he rfl
theorem PM.only {w wr w' : World} {base b : Nat} {v : Value} {m : Mo} {Ms : List Mo} (h : PM w wr base b v m Ms) {X : List Nat} (ho : Only X wr w') (hw : ∀ k ∈ X, w.heap.size ≤ k) (hx : FarX wr X) : PM w w' base b v m Ms := by
  have hi : ∀ k ∈ X, ∀ c, ¬ Blk wr k c 3 := fun k hk c hc => hx.no hc (.inl rfl) hk
  refine ⟨below_only h.bel ho hw, Blk.only h.sp ho (hx.no h.sp (.inr rfl)), h.fr.only ho hi, own_only2 h.row ho (fun g hg hk => ?_), fun x hxm => (h.frs x hxm).only ho hi, h.bb, Nat.le_trans h.bs ho.size⟩
  obtain ⟨_, c, hc⟩ := ownC_blk h.row hg
  exact hx.no hc (.inr rfl) hk
theorem PM.later {w wr w' : World} {base b : Nat} {v : Value} {m : Mo} {Ms : List Mo} (h : PM w wr base b v m Ms) (hb : Below wr.heap.size wr w') : PM w w' base b v m Ms := h.only (Only.of_below (S := []) hb) (by simp) (fun k hk => by simp at hk)
theorem far_tx {wr : World} {t pm n : Nat} {P : Nat → List UInt8} {K : Nat} {q : Bool} (h : Tr sv wr t pm n P K q) : FarX wr [t, pm] := fun k hk => by
  obtain ⟨cs, hc⟩ := h.blk
  obtain ⟨es, cl, he⟩ := h.mp.obj
  simp only [List.mem_cons, List.not_mem_nil, or_false] at hk
  rcases hk with rfl | rfl
  · exact .inl ⟨_, _, hc, by decide, by decide⟩
  · exact .inr ⟨_, _, he⟩
theorem far_sv {wr : World} {t pm n base : Nat} {P : Nat → List UInt8} {K : Nat} {q : Bool} {S : List Sn} (h : Tr sv wr t pm n P K q) (hs : Sv wr base sv S pm) : FarX wr (t :: sv.ownBlock.toList) := fun k hk => by
  obtain ⟨cs, hc⟩ := h.blk
  rcases List.mem_cons.1 hk with rfl | hk
  · exact .inl ⟨_, _, hc, by decide, by decide⟩
  · have e : sv.ownBlock = some k := by simpa using hk
    obtain ⟨_, c, hb⟩ := ownC_blk hs.row e
    exact .inl ⟨_, _, hb, by decide, by decide⟩
theorem low_sv {wr : World} {t pm base B : Nat} {S : List Sn} (hs : Sv wr base sv S pm) (h1 : B ≤ t) (h2 : B ≤ base) : ∀ k ∈ t :: sv.ownBlock.toList, B ≤ k := fun k hk => by
  rcases List.mem_cons.1 hk with rfl | hk
  · exact h1
  · have e : sv.ownBlock = some k := by simpa using hk
    have := (ownC_blk hs.row e).1
    omega
/-- A transaction and its savepoints beside blocks of the document's. -/
theorem Tr.onlyS {w V : World} {t pm n : Nat} {P : Nat → List UInt8} {K : Nat} {wr : Bool} {X : List Nat} (h : Tr sv w t pm n P K wr) (ho : Only X w V) (hS : ∀ b ∈ X, ∃ c, Blk w b c 66) : Tr sv V t pm n P K wr := by
  obtain ⟨⟨j, d, mb, l, room, L, cn, h1, h2, h3⟩, h4, h5, h6⟩ := h
  obtain ⟨es, cl, he⟩ := h4.obj
  have hk : ∀ {b : Nat} {c : Array Value} {ty : TypeId}, Blk w b c ty → ty ≠ 66 → b ∉ X := fun {b c ty} hb n1 hm => by
    obtain ⟨c', hb'⟩ := hS _ hm
    exact blk_ne hb hb' n1 rfl
  have hmp : ∀ {b : Nat} {es : Array MapEntry} {cl : Nat}, w.heap[b]? = some (.map es cl) → b ∉ X := fun {b es cl} hb hm => by
    obtain ⟨c', hb'⟩ := hS _ hm
    exact blk_map hb' hb rfl
  exact ⟨⟨j, d, mb, l, room, L, cn, h1.only ho (hk h1.jr (by decide)) (hk h1.de.blk (by decide)) (hmp h1.de.mp) (hk h1.lk (by decide)), Blk.only h2 ho (hk h2 (by decide)), h3⟩, h4.only ho (hmp he), h5, h6⟩
theorem Sv.onlyS {w V : World} {base pm : Nat} {S : List Sn} {X : List Nat} (h : Sv w base sv S pm) (ho : Only X w V) (hS : ∀ b ∈ X, ∃ c, Blk w b c 66) : Sv V base sv S pm := by
  refine h.only ho (fun g hg hm => ?_) (fun s hs hm => ?_)
  · obtain ⟨_, c, hb⟩ := ownC_blk h.row hg
    obtain ⟨c', hb'⟩ := hS _ hm
    exact blk_ne hb hb' (by decide) rfl
  · obtain ⟨es, cl, he⟩ := (h.each s hs).1.obj
    obtain ⟨c', hb'⟩ := hS _ hm
    exact blk_map hb' he rfl
/-- The space is written anew. -/
theorem PM.setB {w wr W : World} {base b : Nat} {v : Value} {m m' : Mo} {Ms : List Mo} (h : PM w wr base b v m Ms) (ho : Only [b] wr W) (hs : SpB W b m'.d (m'.c : Int) (mF m') m'.N) (hf : FrP wr m'.p m'.k m'.G) : PM w W base b v m' Ms := by
  have hi : ∀ k ∈ [b], ∀ c, ¬ Blk wr k c 3 := fun k hk c hc => by
    obtain rfl := List.mem_singleton.1 hk
    exact blk_ne h.sp hc (by decide) rfl
  refine ⟨below_only h.bel ho (fun k hk => by obtain rfl := List.mem_singleton.1 hk; exact h.bb.1), hs, hf.only ho hi, own_only2 h.row ho (fun g hg hk => ?_), fun x hxm => (h.frs x hxm).only ho hi, h.bb, Nat.le_trans h.bs ho.size⟩
  have := (ownC_blk h.row hg).1
  have := h.bb.2
  simp at hk
  omega
theorem spX {wr : World} {b : Nat} {d : Bool} {c : Int} {f : Value} {N : Nat → Nat} (h : SpB wr b d c f N) : ∀ k ∈ [b], ∃ c, Blk wr k c 66 := fun k hk => by
  obtain rfl := List.mem_singleton.1 hk
  exact ⟨_, h⟩
theorem rowX {wr : World} {base n : Nat} {v : Value} {xs : List Value} (h : wr.ownsRow base 66 11 v n xs) : ∀ k ∈ v.ownBlock.toList, ∃ c, Blk wr k c 66 := fun k hk => (ownC_blk h (by simpa using hk)).2
/-- A copy is appended. -/
theorem PM.app {w wr w' : World} {base b : Nat} {v v' : Value} {m : Mo} {Ms : List Mo} (h : PM w wr base b v m Ms) (ho : w'.ownsRow base 66 11 v' (Ms.length + 1) (msL Ms ++ mL m)) (hg : wr.grownBy w' v.ownBlock) : PM w w' base b v' m (Ms ++ [m]) := by
  have hO := Only.of_grown hg
  have hi : ∀ k ∈ v.ownBlock.toList, ∀ c, ¬ Blk wr k c 3 := fun k hk c hc => by
    obtain ⟨c', hb'⟩ := rowX h.row k hk
    exact blk_ne hb' hc (by decide) rfl
  refine ⟨below_only h.bel hO (fun k hk => ?_), Blk.only h.sp hO (fun hk => ?_), h.fr.only hO hi, ?_, fun x hxm => ?_, h.bb, Nat.le_trans h.bs hO.size⟩
  · have := (ownC_blk h.row (by simpa using hk)).1
    have := h.bb
    omega
  · have := (ownC_blk h.row (by simpa using hk)).1
    have := h.bb
    omega
  · simpa [msL] using ho
  · rcases List.mem_append.1 hxm with hx | hx
    · exact (h.frs x hx).only hO hi
    · obtain rfl := List.mem_singleton.1 hx
      exact h.fr.only hO hi
end Go.Proofs.YtenfjbcigkolaaaGreat

namespace Go.Proofs.YtenfjbcigkolaaaGreat
variable {sv : Value}
open Go.ChangeShapes Go.WideShapes Go.ChangeAt Go.RowKit Go.Maps
set_option linter.unusedVariables false

theorem zN_lt (i : Nat) : zN i < 4294967296 := by unfold zN; omega
theorem Md.lay (P : Nat → List UInt8) : Md (upP P 1 (firstL 0 zN)) 1 ⟨true, 1, [], zN, none, 0⟩ :=
  Md.la (m := ⟨true, 1, [], zN, none, 0⟩) rfl (Nat.le_refl _) 0 (by decide) (fst_of (upP_at _ _ _) (by decide) zN_lt) zN_lt .nil List.nodup_nil
theorem ch_nil {P : Nat → List UInt8} {n L : Nat} (h : Ch P n L []) : L = 0 := by cases h; rfl
theorem ch_cons {P : Nat → List UInt8} {n L g : Nat} {G : List Nat} (h : Ch P n L (g :: G)) : L = g := by cases h; rfl
theorem Md.more {P : Nat → List UInt8} {n : Nat} {m : Mo} (h : Md P n m) (hd : m.d = true) (hG : m.G = []) : Md (upP P (n + 1) (freeL 0)) (n + 1) { m with c := m.c + 1 } := by
  cases h with
  | un h0 => rw [h0] at hd; cases hd
  | la h0 h1 L hL hf hN hc hnd =>
    refine Md.la (m := { m with c := m.c + 1 }) hd (by show 1 ≤ m.c + 1; omega) 0 (by omega) ?_ hN (by rw [show ({ m with c := m.c + 1 } : Mo).G = [] from hG]; exact .nil) hnd
    rw [hG] at hc
    have := ch_nil hc
    subst this
    rw [upP_off _ _ (by omega)]
    exact hf
theorem Md.take {P : Nat → List UInt8} {n g : Nat} {G : List Nat} {m : Mo} (h : Md P n m) (hG : m.G = g :: G) (p' : Option Addr) (k' : Nat) : Md (upP P 1 (firstL (linkV (P g)) m.N)) n { m with G := G, p := p', k := k' } := by
  cases h with
  | un h0 hc hg => rw [hg] at hG; cases hG
  | la h0 h1 L hL hf hN hc hnd =>
    rw [hG] at hc hnd
    obtain rfl := ch_cons hc
    obtain ⟨a1, a2, a3, a4⟩ := hc.take (firstL (linkV (P L)) m.N)
    exact Md.la (m := { m with G := G, p := p', k := k' }) h0 h1 (linkV (P L)) (linkV_lt _) (fst_of (upP_at _ _ _) (linkV_lt _) hN) hN a4 (List.nodup_cons.1 hnd).2
theorem Md.set {P : Nat → List UInt8} {n L i x : Nat} {m : Mo} (hd : m.d = true) (h1 : 1 ≤ m.c) (hL : L < 4294967296) (hN : ∀ i, m.N i < 4294967296) (hc : Ch P m.c L m.G) (hnd : m.G.Nodup) (hx : x < 4294967296) : Md (upP P 1 (firstL L (stM m.N i x))) m.c { m with N := stM m.N i x } := by
  have hN' : ∀ j, stM m.N i x j < 4294967296 := fun j => by
    unfold stM
    split
    · exact hx
    · exact hN j
  refine Md.la (m := { m with N := stM m.N i x }) hd h1 L hL (fst_of (upP_at _ _ _) hL hN') hN' (hc.same (fun g hg => upP_off _ _ (by have := hc.all g hg; omega)) (Nat.le_refl _)) hnd
theorem Md.give {P : Nat → List UInt8} {L x : Nat} {m : Mo} (hd : m.d = true) (h1 : 1 ≤ m.c) (hL : L < 4294967296) (hN : ∀ i, m.N i < 4294967296) (hc : Ch P m.c L m.G) (hnd : m.G.Nodup) (h2 : 2 ≤ x) (h3 : x ≤ m.c) (hx : x ∉ m.G) (hxl : x < 4294967296) (p' : Option Addr) (k' : Nat) : lfR P m.c x L = none ∧ Md (gvP P m.c x L m.N) m.c { m with G := x :: m.G, p := p', k := k' } := by
  obtain ⟨e1, e2⟩ := hc.give (N := m.N) hL h2 h3 hx
  exact ⟨e1, Md.la (m := { m with G := x :: m.G, p := p', k := k' }) hd h1 x hxl (fst_of (upP_at _ _ _) hxl hN) hN e2 (List.nodup_cons.2 ⟨hx, hnd⟩)⟩
/-- Between two calls. -/
structure PL (w wr : World) (base t pm n K b : Nat) (P : Nat → List UInt8) (sv v : Value) (S : List Sn) (m : Mo) (Ms : List Mo) (k : Nat) : Prop where
  mem : PM w wr base b v m Ms
  tr : Tr sv wr t pm n P K true
  ss : Sv wr base sv S pm
  md : Md P n m
  len : S.length = Ms.length
  mds : ∀ (i : Nat) (s : Sn) (x : Mo), S[i]? = some s → Ms[i]? = some x → Md s.P s.n x ∧ s.K ≤ 3 * k ∧ s.n ≤ k ∧ x.G.length ≤ k
  lo : w.heap.size ≤ t ∧ w.heap.size ≤ pm ∧ w.heap.size ≤ base
  bd : K ≤ 3 * k ∧ n ≤ k ∧ m.G.length ≤ k ∧ Ms.length ≤ k
theorem PL.later {w wr w' : World} {base t pm n K b : Nat} {P : Nat → List UInt8} {v : Value} {S : List Sn} {m : Mo} {Ms : List Mo} {k : Nat} (h : PL w wr base t pm n K b P sv v S m Ms k) (hb : Below wr.heap.size wr w') : PL w w' base t pm n K b P sv v S m Ms k :=
  ⟨h.mem.later hb, h.tr.later hb, h.ss.later hb, h.md, h.len, h.mds, h.lo, h.bd⟩
/-- Nothing more came of a call. -/
theorem PL.up {w wr : World} {base t pm n K b : Nat} {P : Nat → List UInt8} {v : Value} {S : List Sn} {m : Mo} {Ms : List Mo} {k : Nat} (h : PL w wr base t pm n K b P sv v S m Ms k) : PL w wr base t pm n K b P sv v S m Ms (k + 1) :=
  ⟨h.mem, h.tr, h.ss, h.md, h.len, fun i s x h1 h2 => by have := h.mds i s x h1 h2; exact ⟨this.1, by omega, by omega, by omega⟩, h.lo, by have := h.bd; omega⟩
/-- The transaction's pages change, and the space is written anew. -/
structure PT (w wr : World) (base t pm n K b : Nat) (P : Nat → List UInt8) (sv v : Value) (S : List Sn) (m : Mo) (Ms : List Mo) : Prop where
  mem : PM w wr base b v m Ms
  tr : Tr sv wr t pm n P K true
  ss : Sv wr base sv S pm
theorem PL.tx {w wr w' : World} {base t pm n K b n' K' : Nat} {P P' : Nat → List UInt8} {v : Value} {S : List Sn} {m : Mo} {Ms : List Mo} {k : Nat} (h : PL w wr base t pm n K b P sv v S m Ms k) (ho : Only [t, pm] wr w') (ht : Tr sv w' t pm n' P' K' true) : PT w w' base t pm n' K' b P' sv v S m Ms :=
  ⟨h.mem.only ho (two_in h.lo.1 h.lo.2.1) (far_tx h.tr), ht, h.ss.tx h.tr ho⟩
theorem PL.pt {w wr : World} {base t pm n K b : Nat} {P : Nat → List UInt8} {v : Value} {S : List Sn} {m : Mo} {Ms : List Mo} {k : Nat} (h : PL w wr base t pm n K b P sv v S m Ms k) : PT w wr base t pm n K b P sv v S m Ms := ⟨h.mem, h.tr, h.ss⟩
theorem PT.later {w wr w' : World} {base t pm n K b : Nat} {P : Nat → List UInt8} {v : Value} {S : List Sn} {m : Mo} {Ms : List Mo} (h : PT w wr base t pm n K b P sv v S m Ms) (hb : Below wr.heap.size wr w') : PT w w' base t pm n K b P sv v S m Ms := ⟨h.mem.later hb, h.tr.later hb, h.ss.later hb⟩
theorem PT.setB {w wr W : World} {base t pm n K b : Nat} {P : Nat → List UInt8} {v : Value} {S : List Sn} {m m' : Mo} {Ms : List Mo} (h : PT w wr base t pm n K b P sv v S m Ms) (ho : Only [b] wr W) (hs : SpB W b m'.d (m'.c : Int) (mF m') m'.N) (hf : FrP wr m'.p m'.k m'.G) : PT w W base t pm n K b P sv v S m' Ms :=
  ⟨h.mem.setB ho hs hf, h.tr.onlyS ho (spX h.mem.sp), h.ss.onlyS ho (spX h.mem.sp)⟩
/-- A call is done that left the savepoints. -/
theorem PL.next {w wr w' : World} {base t pm n K b n' K' : Nat} {P P' : Nat → List UInt8} {v : Value} {S : List Sn} {m m' : Mo} {Ms : List Mo} {k : Nat} (h : PL w wr base t pm n K b P sv v S m Ms k) (ht : PT w w' base t pm n' K' b P' sv v S m' Ms) (hm : Md P' n' m') (h1 : K' ≤ K + 3) (h2 : n' ≤ n + 1) (h3 : m'.G.length ≤ m.G.length + 1) : PL w w' base t pm n' K' b P' sv v S m' Ms (k + 1) :=
  ⟨ht.mem, ht.tr, ht.ss, hm, h.len, fun i s x g1 g2 => by have := h.mds i s x g1 g2; exact ⟨this.1, by omega, by omega, by omega⟩, h.lo, by have := h.bd; omega⟩
end Go.Proofs.YtenfjbcigkolaaaGreat

namespace Go.Proofs.YtenfjbcigkolaaaGreat
variable {sv : Value}
open Go.ChangeShapes Go.WideShapes Go.ChangeAt Go.RowKit Go.Maps
set_option linter.unusedVariables false

theorem sp_info : ∃ i z, Tryz.prog.info? 66 = some i ∧ i.zero = some z ∧ i.size = 11 ∧ z.cells.size = 11 ∧ i.bytes ≤ 1000 := by
  have h : (Tryz.prog.info? 66).map (fun i => (i.zero.map (·.cells.size), i.size, decide (i.bytes ≤ 1000))) = some (some 11, 11, true) := by kernel_rfl
  obtain ⟨i, h1, h2⟩ := Option.map_eq_some_iff.1 h
  simp only [Prod.mk.injEq] at h2
  obtain ⟨z, hz, hs⟩ := Option.map_eq_some_iff.1 h2.1
  exact ⟨i, z, h1, hz, h2.2.1, hs, of_decide_eq_true h2.2.2⟩
/-- A space is appended to a row that is owned. -/
theorem wp_appSp {ops : Array Oper} {rest : List Oper} {o : Oper} {a : Act} {Q : Exit → Act → World → Prop} {W : World} {base n : Nat} {v : Value} {xs : List Value} (m : Mo) (hown : (W.alloc (.cells (mL m).toArray 66)).ownsRow base 66 11 v n xs) (hn : n ≤ 1000) (hbase : base ≤ (W.alloc (.cells (mL m).toArray 66)).heap.size) (s z : Operand)
    (hgd : o.guard = none) (ho : o.op = .call { callee := .builtin .append, args := #[s, z], argTypes := #[67, 67] }) (hs : a.eval s = v) (hz : a.eval z = .slice (some ⟨W.heap.size, 0, none⟩) 1 1)
    (hk : ∀ v' w', w'.ownsRow base 66 11 v' (n + 1) (xs ++ mL m) → (W.alloc (.cells (mL m).toArray 66)).grownBy w' v.ownBlock → wpList Tryz.prog ops Q rest (a.put o.dst v') w') : wpList Tryz.prog ops Q (o :: rest) a (W.alloc (.cells (mL m).toArray 66)) := by
  obtain ⟨i, zv, hi, hz0, hsz, hzs, hby⟩ := sp_info
  have hnews : ∀ j u, (mL m)[j]? = some u → (W.alloc (.cells (mL m).toArray 66)).cell? ((⟨W.heap.size, 0, none⟩ : Addr).add j) = some u := fun j u hj => by
    rw [show (⟨W.heap.size, 0, none⟩ : Addr).add j = ⟨W.heap.size, j, none⟩ by unfold Addr.add; split <;> simp_all]
    have hb : Blk (W.alloc (.cells (mL m).toArray 66)) W.heap.size (mL m).toArray 66 := Blk.new _ _ _
    rw [hb.cell]; simpa using hj
  exact wpList_append_own_at _ hgd s z 67 ho base 66 i zv 11 i.bytes Tryz.underlying67 hi hz0 hsz rfl hzs (by omega) v n xs hs hown ⟨W.heap.size, 0, none⟩ 1 1 (mL m) hz rfl hnews (mL_one m) (by simp only [maxLen]; omega) (Nat.le_trans (Nat.mul_le_mul (show n + 1 ≤ 1001 by omega) hby) (by decide)) hbase (fun v' w' h2 h3 h4 h5 => hk v' w' h2 h3)
theorem sp_zero : ∃ i, Tryz.prog.info? 66 = some i ∧ i.zero = some (.agg #[.bool false, .int .i64 0, .slice none 0 0, .int .u32 0, .int .u32 0, .int .u32 0, .int .u32 0, .int .u32 0, .int .u32 0, .int .u32 0, .int .u32 0]) ∧ i.size = 11 := by
  have h : (Tryz.prog.info? 66).map (fun i => (i.zero, i.size)) = some (some (.agg #[.bool false, .int .i64 0, .slice none 0 0, .int .u32 0, .int .u32 0, .int .u32 0, .int .u32 0, .int .u32 0, .int .u32 0, .int .u32 0, .int .u32 0]), 11) := by kernel_rfl
  obtain ⟨i, h1, h2⟩ := Option.map_eq_some_iff.1 h
  simp only [Prod.mk.injEq] at h2
  exact ⟨i, h1, h2.1, h2.2⟩
theorem atBs (t : TypeId) {P : Program} {ops : Array Oper} {Q : Exit → Act → World → Prop} {d : Option Tmp} {n : Nat} {x : Array (Nat × Operand)} {ty : TypeId} {pos : String} {af : Array Edge} {gd : Option (Nat × Bool)} {rest : List Oper} {a : Act} {w : World} (h : wpList P ops Q ({ dst := d, op := .buildSlice t n x, type := ty, pos := pos, after := af, guard := gd } :: rest) a w) : wpList P ops Q ({ dst := d, op := .buildSlice t n x, type := ty, pos := pos, after := af, guard := gd } :: rest) a w := h
theorem sp_fill (m : Mo) : Instr.fill (fun i => some (i * 11, 11)) ((Array.range (1 * 11)).map ((Value.agg #[.bool false, .int .i64 0, .slice none 0 0, .int .u32 0, .int .u32 0, .int .u32 0, .int .u32 0, .int .u32 0, .int .u32 0, .int .u32 0, .int .u32 0]).cells[· % (Value.agg #[.bool false, .int .i64 0, .slice none 0 0, .int .u32 0, .int .u32 0, .int .u32 0, .int .u32 0, .int .u32 0, .int .u32 0, .int .u32 0, .int .u32 0]).cells.size]!)) [(0, Value.agg (mL m).toArray)] = some (mL m).toArray := by
  kernel_rfl
/-- A row of one space is made. -/
theorem wp_bsSp {ops : Array Oper} {rest : List Oper} {o : Oper} {a : Act} {Q : Exit → Act → World → Prop} {w : World} (m : Mo) (x : Operand) (hg : o.guard = none) (ho : o.op = .buildSlice 67 1 #[(0, x)]) (hx : a.eval x = .agg (mL m).toArray)
    (hk : wpList Tryz.prog ops Q rest (a.put o.dst (.slice (some ⟨w.heap.size, 0, none⟩) 1 1)) (w.alloc (.cells (mL m).toArray 66))) : wpList Tryz.prog ops Q (o :: rest) a w := by
  obtain ⟨i, hi, hz, hs⟩ := sp_zero
  refine wpList_buildSlice hg 67 66 1 _ ho (mL m).toArray i _ Tryz.underlying67 hi hz (by rw [hs]; decide) (by rw [hs]; decide) ?_ hk
  rw [hs]
  have e : (#[(0, x)].map fun (y : Nat × Operand) => (y.1, a.eval y.2)).toList = [(0, Value.agg (mL m).toArray)] := by simp [hx]
  rw [e]
  exact sp_fill m
theorem PL.saved {w W3 w5 w7 : World} {base t pm n K b q : Nat} {P : Nat → List UInt8} {v v7 sv5 : Value} {S : List Sn} {m : Mo} {Ms : List Mo} {k : Nat} (h : PL w W3 base t pm n K b P sv v S m Ms k) (hw : SvW W3 w5 t pm n base P K true sv sv5 S q) (hm : PM w (w5.alloc (.cells (mL m).toArray 66)) base b v m Ms)
    (ho : w7.ownsRow base 66 11 v7 (Ms.length + 1) (msL Ms ++ mL m)) (hg : (w5.alloc (.cells (mL m).toArray 66)).grownBy w7 v.ownBlock) : PL w w7 base t pm n K b P sv5 v7 (S ++ [⟨n, q, K, P⟩]) m (Ms ++ [m]) (k + 1) := by
  have hO := Only.of_grown hg
  have hl := h.len
  have hbd := h.bd
  refine ⟨hm.app ho hg, (hw.tr.later (below_alloc _ _)).onlyS hO (rowX hm.row), (hw.ss.later (below_alloc _ _)).onlyS hO (rowX hm.row), h.md, by simp [hl], fun i s x g1 g2 => ?_, h.lo, by simp only [List.length_append, List.length_singleton]; omega⟩
  by_cases hi : i < S.length
  · rw [List.getElem?_append_left hi] at g1
    rw [List.getElem?_append_left (by omega)] at g2
    have := h.mds i s x g1 g2
    exact ⟨this.1, by omega, by omega, by omega⟩
  · have hi2 : i = S.length := by
      have := (List.getElem?_eq_some_iff.1 g1).1
      simp at this
      omega
    subst hi2
    simp at g1
    rw [hl] at g2
    simp at g2
    subst g1; subst g2
    exact ⟨h.md, by show K ≤ _; omega, by show n ≤ _; omega, by omega⟩
theorem msL_len (l : List Mo) : (msL l).length = l.length * 11 := by
  induction l with
  | nil => rfl
  | cons a l ih => simp only [msL, List.flatMap_cons, List.length_append, List.length_cons] at ih ⊢; rw [ih, mL_len]; omega
theorem msL_range {w : World} {base g cap : Nat} {Ms : List Mo} {m : Mo} (h : w.ownsRow base 66 11 (.slice (some ⟨g, 0, none⟩) (Ms ++ [m]).length cap) (Ms ++ [m]).length (msL (Ms ++ [m]))) : w.rangeAt g (Ms.length * 11) (mL m) := fun j u hj => by
  have hlt : j < 11 := by
    have := (List.getElem?_eq_some_iff.1 hj).1
    rw [mL_len] at this
    exact this
  have hml := msL_len Ms
  have := h.cellAt (Ms.length * 11 + j) (by simp; omega)
  rw [this]
  have e : msL (Ms ++ [m]) = msL Ms ++ mL m := by simp [msL]
  rw [e, List.getElem?_append_right (by omega), hml, Nat.add_sub_cancel_left]
  exact hj
theorem PM.pop {w wr : World} {base b g cap : Nat} {m m0 : Mo} {Ms : List Mo} (h : PM w wr base b (.slice (some ⟨g, 0, none⟩) (Ms ++ [m0]).length cap) m (Ms ++ [m0])) : PM w wr base b (.slice (some ⟨g, 0, none⟩) Ms.length cap) m Ms := by
  refine ⟨h.bel, h.sp, h.fr, ?_, fun x hx => h.frs x (by simp [hx]), h.bb, h.bs⟩
  have ho := h.row
  have e : msL (Ms ++ [m0]) = msL Ms ++ mL m0 := by simp [msL]
  rw [e, show (Ms ++ [m0]).length = Ms.length + 1 by simp] at ho
  exact ownsRow_pop (last := mL m0) (msL_len Ms) ho
theorem PL.backed {w W3 w5 w6 W9 : World} {base t pm n K b q g cap : Nat} {P : Nat → List UInt8} {sv5 sv6 : Value} {S : List Sn} {s0 : Sn} {m m0 : Mo} {Ms : List Mo} {k : Nat} (h : PL w W3 base t pm n K b P sv (.slice (some ⟨g, 0, none⟩) (Ms ++ [m0]).length cap) (S ++ [s0]) m (Ms ++ [m0]) k) (hl : S.length = Ms.length)
    (hq : W3.heap.size ≤ q) (f5 : FgW W3 w5 t q s0.n base s0.P s0.K true sv sv5 (S ++ [s0]) (Ms.length + 1)) (f6 : FgW w5 w6 t q s0.n base s0.P s0.K true sv5 sv6 (S ++ [s0]) Ms.length) (hm : PM w w6 base b (.slice (some ⟨g, 0, none⟩) (Ms ++ [m0]).length cap) m (Ms ++ [m0])) (ho : Only [b] w6 W9) (hs : SpB W9 b m0.d (m0.c : Int) (mF m0) m0.N) :
    PL w W9 base t q s0.n s0.K b s0.P sv6 (.slice (some ⟨g, 0, none⟩) Ms.length cap) S m0 Ms (k + 1) := by
  have h0 := h.mds S.length s0 m0 (by simp) (by rw [hl]; simp)
  have hbd := h.bd
  have hss := f6.ss
  rw [show (S ++ [s0]).take Ms.length = S by rw [← hl]; simp] at hss
  refine ⟨(hm.setB ho hs (hm.frs m0 (by simp))).pop, f6.tr.onlyS ho (spX hm.sp), hss.onlyS ho (spX hm.sp), h0.1, hl, fun i s x g1 g2 => ?_, ⟨h.lo.1, Nat.le_trans h.mem.bel.size hq, h.lo.2.2⟩, ?_⟩
  · have l1 := (List.getElem?_eq_some_iff.1 g1).1
    have := h.mds i s x (by rw [List.getElem?_append_left l1]; exact g1) (by rw [List.getElem?_append_left (by omega)]; exact g2)
    exact ⟨this.1, by omega, by omega, by omega⟩
  · simp only [List.length_append, List.length_singleton] at hbd
    exact ⟨by omega, by omega, by omega, by omega⟩
end Go.Proofs.YtenfjbcigkolaaaGreat
