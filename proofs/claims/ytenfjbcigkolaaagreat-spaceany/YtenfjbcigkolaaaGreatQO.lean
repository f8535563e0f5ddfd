/- Take where the first free page is none. -/
/- A row of pages that came in as an argument. -/
/- SpaceAny: plain. -/
/- SpaceAny: the walk. -/
import Derived.Test.YtenfjbcigkolaaaGreatQG
import Derived.Test.YtenfjbcigkolaaaGreatQK
import Derived.Test.YtenfjbcigkolaaaGreatGA
namespace Go.Proofs.YtenfjbcigkolaaaGreat
open Go.ChangeShapes Go.WideShapes Go.ChangeAt Go.RowKit Go.Maps
set_option linter.unusedVariables false

theorem mt_bad1 (w : World) (A M C B L n t pm : Nat) {P : Nat → List UInt8} {K : Nat} {b : Bool} (ht : Tr w t pm n P K b) (hL : L < 4294967296) (hm : MtB w A M C B L 1 n t) (h0 : L ≠ 0) (hok : ¬ ((1 ≠ n ∧ 2 ≤ L ∧ L ≤ n) ∧ isFree (P L) = true)) :
    Calls Tryz.prog 136 #[.pointer (some ⟨A, 0, none⟩), .pointer (some ⟨M, 0, none⟩), .pointer (some ⟨C, 0, none⟩), .pointer (some ⟨B, 0, none⟩)] w fun e w' => e = .returned (.tuple #[.agg #[.int .i64 0, .int .u32 0], .int .i64 8]) ∧ Only [A, M] w w' := by
  by_cases hf : 1 = n ∨ ¬ (2 ≤ L ∧ L ≤ n)
  · exact (mt_far w A M C B L 1 n t hL h0 hm hf).mono fun e w' hh => ⟨hh.1, Only.of_below hh.2⟩
  · have h1 : 1 ≠ n ∧ 2 ≤ L ∧ L ≤ n := by omega
    have hfr : isFree (P L) = false := by
      cases hq : isFree (P L) with
      | false => rfl
      | true => exact absurd ⟨h1, hq⟩ hok
    exact (mt_meet w A M C B L 1 n t pm ht hL hm h1.1 h1.2.1 h1.2.2 (by omega)).mono fun e w' hh => ⟨(hh.2 hfr).1, (hh.2 hfr).2.2⟩
set_option maxRecDepth 20000 in
set_option maxHeartbeats 2000000 in
theorem take_bad (w : World) (t pm n : Nat) {P : Nat → List UInt8} {K L : Nat} {N : Nat → Nat} (h : Ld w t pm n P K L N) (h0 : L ≠ 0) (hok : ¬ ((1 ≠ n ∧ 2 ≤ L ∧ L ≤ n) ∧ isFree (P L) = true)) : Calls Tryz.prog 38 #[.pointer (some ⟨t, 0, none⟩)] w fun e w' => e = .returned (.tuple #[.int .i64 0, .int .i64 8]) ∧ Below w.heap.size w w' := by
  have HF := hide (firstToChange_e w _ _ 0 h.fc)
  have HI := hide (sizeF L N)
  have HSz := hide (size_fst L 0 N zN)
  have HOn := hide (fstL_one L N)
  have HFn := hide fst_new
  have HMe := hide (fun X (hb : Below w.heap.size w X) => meeting_e X t pm n (h.tr.later hb) L)
  have HMt := hide (fun X A M C B (hb : Below w.heap.size w X) (hm : MtB X A M C B L 1 n t) => mt_bad1 X A M C B L n t pm (h.tr.later hb) h.lk hm h0 hok)
  have HIr := hide infoFr
  have HFr := hide (fun V => Blk.new V #[.int .i64 0, .int .u32 0] 155)
  clear h hok
  go_enter Tryz.func38, Tryz.ntmps38
  go_wp2_with (first
    | (go_at_call 95; (with_reducible refine Calls.mono HF.out ?_); rintro e w4 ⟨rfl, hb⟩; have HB4 := hide (below_trans hb (below_alloc w4 (.cells #[.int .u32 0, .int .u32 0, .int .u32 0, .int .u32 0, .int .u32 0, .int .u32 0, .int .u32 0, .int .u32 0, .int .u32 0] 151))); have HF4 := hide (HFn.out w4); have HS4 := hide hb.size; clear hb)
    | ((with_reducible refine atSt 151 ?_); refine wp_storeB (c := (fstL L N).toArray) HI.out HSz.out HOn.out HF4.out _ _ (by rfl) (by rfl) (by rfl) (by rfl) ?_; intro W5 hb5 ho5; have c5 := FstB.link hb5; have HB5 := hide (below_only1 HB4.out ho5 HS4.out); clear hb5 ho5)
    | (go_at_call 96; (with_reducible refine Calls.mono (HMe.out _ HB5.out) ?_); rintro e w6 ⟨A, M, C, B, rfl, hm, hb, hA, hM, _⟩; have HM6 := hide hm; have HA6 := hide (And.intro hA hM); have HB6 := hide (below_trans HB5.out hb); clear hm hb hA hM)
    | (go_at_call 136; (with_reducible refine Calls.mono (HMt.out _ _ _ _ _ HB6.out HM6.out) ?_); rintro e w7 ⟨rfl, ho⟩; have hb := below_only HB6.out ho (two_in (Nat.le_trans HB5.out.size HA6.out.1) (Nat.le_trans HB5.out.size HA6.out.2)); have HS7 := hide hb.size; have HB7 := hide (below_trans hb (below_alloc w7 (.cells #[.int .i64 0, .int .u32 0] 155))); clear hb ho)
    | ((with_reducible refine atSt 155 ?_); refine wp_storeB (c := #[.int .i64 0, .int .u32 0]) (z := #[.int .i64 0, .int .u32 0]) HIr.out rfl (fr_one _ _) (HFr.out _) _ _ (by rfl) (by rfl) (by rfl) (by rfl) ?_; intro W8 hb8 ho8; have HB8 := hide (below_only1 HB7.out ho8 HS7.out); clear hb8 ho8))
  go_ret2
  exact ⟨rfl, HB8.out⟩
end Go.Proofs.YtenfjbcigkolaaaGreat

namespace Go.Proofs.YtenfjbcigkolaaaGreat
open Go.ChangeShapes Go.WideShapes Go.ChangeAt Go.RowKit Go.Deep
set_option linter.unusedVariables false

/-- A row of pages that came in. -/
def PgP (w : World) (p : Option Addr) (len : Nat) (Q : Nat → List UInt8) : Prop := 0 < len → ∃ b o, p = some ⟨b, o, none⟩ ∧ ∀ i, i < len → (Q i).length = 256 ∧ w.rangeAt b (o + i * 256) (bcl (Q i))
theorem PgP.later {w w' : World} {p : Option Addr} {len : Nat} {Q : Nat → List UInt8} (h : PgP w p len Q) (hb : Below w.heap.size w w') : PgP w' p len Q := fun h0 => let ⟨b, o, e, g⟩ := h h0; ⟨b, o, e, fun i hi => ⟨(g i hi).1, fun j v hj => cell_later1 hb ((g i hi).2 j v hj)⟩⟩
theorem cellsPg : Tryz.prog.cellsOf 32 = 256 := by kernel_rfl
theorem cellsU8 : Tryz.prog.cellsOf 5 = 1 := by kernel_rfl
theorem pageOf_trod {H : Type} {enc : TypeId × Value → H} {w : World} {fuel : Nat} {cs : List Value} {x : DataW H × List MemPlace} (hl : cs.length = 256) (h : DataW.trod enc Tryz.prog w 0 (fun _ => true) true fuel 32 cs = some x) : ∃ l : List UInt8, l.length = 256 ∧ cs = bcl l := by
  obtain ⟨xs, m, _, _, hlen, hxl, hx⟩ := DataW.trod_array page_arr h
  have each : ∀ i, i < 256 → ∃ b : UInt8, cs[i]? = some (.int .u8 (b.toNat : Int)) := by
    intro i hi
    have hxi := hx i hi
    rw [cellsU8, Nat.mul_one, List.getElem?_eq_getElem (by omega)] at hxi
    obtain ⟨n, hn, _, wf⟩ := DataW.trod_int Tryz.underlying5 hxi
    have hc : cs[i]? = some (.int .u8 n) := by
      have : ((cs.drop i).take 1) = [Value.int .u8 n] := hn
      have h2 := congrArg (fun l => l[0]?) this
      simpa [List.getElem?_take, List.getElem?_drop] using h2
    have e1 : IntKind.u8.min = 0 := by decide
    have e2 : IntKind.u8.max = 255 := by decide
    simp only [Lit.wf, Bool.and_eq_true, decide_eq_true_eq, e1, e2] at wf
    refine ⟨UInt8.ofNat n.toNat, ?_⟩
    rw [hc, UInt8.toNat_ofNat']
    congr 2
    omega
  obtain ⟨q, hq⟩ := choose_lt each
  refine ⟨(List.range 256).map q, by simp, ?_⟩
  apply List.ext_getElem?
  intro i
  by_cases hi : i < 256
  · rw [hq i hi]
    simp [bcl, hi]
  · rw [List.getElem?_eq_none (by omega), List.getElem?_eq_none (by simp [bcl]; omega)]
set_option maxRecDepth 100000 in
theorem open_pagesR {H : Type} {enc : TypeId × Value → H} {w : World} {fuel : Nat} {cs : List Value} {x : DataW H × List MemPlace} (h : DataW.trod enc Tryz.prog w 0 (fun _ => true) true fuel 50 cs = some x) :
    ∃ (p : Option Addr) (len cap : Nat) (Q : Nat → List UInt8), cs = [.slice p len cap] ∧ PgP w p len Q := by
  rcases open_slice Tryz.underlying50 h with h0 | ⟨a, len, cap, m, n, D, Pl, rfl, hb, hl, hm, hmm, rfl, hx⟩
  · exact ⟨none, 0, 0, fun _ => [], h0.1, fun h => by omega⟩
  simp only [if_true] at hmm
  by_cases h0 : len = 0
  · subst h0; exact ⟨some a, 0, cap, fun _ => [], rfl, fun h => by omega⟩
  have each : ∀ i, i < m → ∃ l : List UInt8, l.length = 256 ∧ ∀ j, j < 256 → w.cell? (a.add (i * 256 + j)) = (bcl l)[j]? := by
    intro i hi
    obtain ⟨cs', h1, h2⟩ := hx i hi
    rw [cellsPg] at h1
    obtain ⟨_, hlen, hcell⟩ := World.cells?_some h1
    obtain ⟨l, hl, rfl⟩ := pageOf_trod hlen h2
    refine ⟨l, hl, fun j hj => ?_⟩
    have := hcell j hj
    rw [add_add] at this
    exact this
  obtain ⟨q, hq⟩ := choose_lt each
  obtain ⟨b, o, spot⟩ := a
  have hspot : spot = none := by
    have h1 := (hq 0 (by omega)).2 0 (by omega)
    have h2 : (bcl (q 0))[0]? ≠ none := by
      rw [List.getElem?_eq_getElem (by have := (hq 0 (by omega)).1; simp [bcl]; omega)]; simp
    cases hc : w.cell? (Addr.add ⟨b, o, spot⟩ (0 * 256 + 0)) with
    | none => rw [hc] at h1; exact absurd h1.symm h2
    | some v => simpa [Addr.add] using World.cell?_spot hc
  subst hspot
  refine ⟨some ⟨b, o, none⟩, len, cap, q, rfl, fun _ => ⟨b, o, rfl, fun i hi => ⟨(hq i (by omega)).1, fun j v hv => ?_⟩⟩⟩
  have hj : j < 256 := by
    refine Nat.lt_of_not_le fun hc => ?_
    have := (hq i (by omega)).1
    rw [List.getElem?_eq_none (by simp [bcl]; omega)] at hv
    cases hv
  have c0 := (hq i (by omega)).2 j hj
  rw [add_plain, hv] at c0
  rw [Nat.add_assoc]
  exact c0
end Go.Proofs.YtenfjbcigkolaaaGreat

namespace Go.Proofs.YtenfjbcigkolaaaGreat
open Go.ChangeShapes Go.WideShapes Go.ChangeAt Go.RowKit Go.Maps
set_option linter.unusedVariables false

/-- The pages that were put in. -/
def pgs (Q : Nat → List UInt8) : Nat → Nat → List UInt8
  | 0 => zPg
  | i + 1 => upP (pgs Q i) (i + 1) (Q i)
theorem freeR_all {P : Nat → List UInt8} {n : Nat} : ∀ (f L : Nat) (G : List Nat), freeR P n f L = some G → ∀ g ∈ G, 2 ≤ g ∧ g ≤ n
  | 0, L, G, h => by
    unfold freeR at h
    split at h
    · cases h; simp
    · cases h
  | f + 1, L, G, h => by
    unfold freeR at h
    split at h
    · cases h; simp
    · split at h
      · rename_i hc
        cases hq : freeR P n f (linkV (P L)) with
        | none => rw [hq] at h; cases h
        | some G' =>
          rw [hq] at h
          simp only [Option.map_some, Option.some.injEq] at h
          subst h
          intro g hg
          rcases List.mem_cons.1 hg with rfl | hg
          · omega
          · exact freeR_all f _ _ hq g hg
      · cases h
theorem put_next (w : World) (t pm k : Nat) {P : Nat → List UInt8} {K : Nat} (h : Tr w t pm k P K true) (hk : k < 4096) (hK : K ≤ 100000) (l : List UInt8) (hl : l.length = 256) : Calls Tryz.prog 15 #[.pointer (some ⟨t, 0, none⟩), .int .i64 ((k : Int) + 1), .agg (bcl l).toArray] w fun e w' => e = .returned (.int .i64 0) ∧ Tr w' t pm (k + 1) (upP P (k + 1) l) (K + 1) true ∧ Only [t, pm] w w' := by
  have := put_e w _ ((k + 1 : Nat) : Int) l hl 0 _ (.inn (k := k + 1) h (by omega) (by omega) (by omega) hK)
  rw [show max k (k + 1) = k + 1 by omega] at this
  exact this
theorem freeR_len {P : Nat → List UInt8} {n : Nat} : ∀ (f L : Nat) (G : List Nat), freeR P n f L = some G → G.length ≤ f
  | 0, L, G, h => by
    unfold freeR at h
    split at h
    · cases h; simp
    · cases h
  | f + 1, L, G, h => by
    unfold freeR at h
    split at h
    · cases h; simp
    · split at h
      · cases hq : freeR P n f (linkV (P L)) with
        | none => rw [hq] at h; cases h
        | some G' =>
          rw [hq] at h
          simp only [Option.map_some, Option.some.injEq] at h
          subst h
          have := freeR_len f _ _ hq
          simp; omega
      · cases h
theorem wrap_small (j m : Nat) (h : j < m) (hm : m ≤ 1000) : IntKind.i64.wrap ((j : Int) + 1) = ((j + 1 : Nat) : Int) := by rw [IntKind.wrap_i64]; omega
/-- A first page. -/
theorem ld_any {w : World} {t pm n : Nat} {P : Nat → List UInt8} {K : Nat} (h : Tr w t pm n P K true) (h1 : 1 ≤ n) (hf : fok (P 1)) : Ld w t pm n P K (linkV (P 1)) (rdN (P 1)) :=
  ⟨h, h1, ⟨by unfold rdV; rw [if_pos hf], by unfold rdE; rw [if_pos hf]⟩, linkV_lt _, fun i => numS_lt _⟩
set_option maxRecDepth 20000 in
set_option maxHeartbeats 8000000 in
theorem any_core (w : World) (p : Option Addr) (len cap : Nat) (Q : Nat → List UInt8) (a : Int) (hp : PgP w p len Q) (hlen : len ≤ 40) (E F g h X : Int) (G : List Nat) (n' : Nat)
    (hcase : (E = 8 ∧ F = 8 ∧ g = 8 ∧ h = 8) ∨ (E = 0 ∧ F = 0 ∧ g = 0 ∧ h = 0 ∧ (¬ X < 2 ∧ ¬ (n' : Int) < X) ∧ 2 ≤ a ∧ a ≤ (n' : Int)) ∨ (E = 0 ∧ F = 0 ∧ g = 0 ∧ h = 2 ∧ ¬ X < 2 ∧ ¬ (n' : Int) < X) ∨ (E = 0 ∧ F = 8 ∧ g = 0 ∧ h = 0 ∧ (¬ X < 2 ∧ ¬ (n' : Int) < X) ∧ 2 ≤ a ∧ a ≤ (n' : Int)) ∨ (E = 0 ∧ F = 8 ∧ g = 0 ∧ h = 2 ∧ ¬ X < 2 ∧ ¬ (n' : Int) < X) ∨ (E = 0 ∧ F = 8 ∧ g = 8 ∧ h = 0 ∧ 2 ≤ a ∧ a ≤ (n' : Int)) ∨ (E = 0 ∧ F = 8 ∧ g = 8 ∧ h = 2))
    (hG : ∀ y ∈ G, 2 ≤ y ∧ y ≤ len) (hGl : G.length ≤ 1000) (A : World → Nat → Nat → Prop)
    (hA : ∀ V V' t pm, A V t pm → Below V.heap.size V V' → A V' t pm) (hAt : ∀ V t pm, A V t pm → ∃ P K, Tr V t pm n' P K true)
    (CL : ∀ V t pm, Tr V t pm len (pgs Q len) len true → Calls Tryz.prog 45 #[.pointer (some ⟨t, 0, none⟩)] V fun e w' => e = .returned (.int .i64 E) ∧ Below V.heap.size V w')
    (CF : ∀ V t pm, Tr V t pm len (pgs Q len) len true → Calls Tryz.prog 44 #[.pointer (some ⟨t, 0, none⟩)] V fun e w' => ∃ v, e = .returned (.tuple #[v, .int .i64 F]) ∧ w'.ownsRow V.heap.size 3 1 v G.length (inL G) ∧ Below V.heap.size V w')
    (CT : ∀ V t pm, Tr V t pm len (pgs Q len) len true → Calls Tryz.prog 38 #[.pointer (some ⟨t, 0, none⟩)] V fun e w' => e = .returned (.tuple #[.int .i64 X, .int .i64 g]) ∧ A w' t pm ∧ Only [t, pm] V w')
    (CG : ∀ V t pm, A V t pm → Calls Tryz.prog 41 #[.pointer (some ⟨t, 0, none⟩), .int .i64 a] V fun e w' => e = .returned (.int .i64 h) ∧ (∃ P K, Tr w' t pm n' P K true) ∧ Only [t, pm] V w') :
    Calls Tryz.prog 7 #[.slice p len cap, .int .i64 a] w fun e w' => e = .returned (.bool true) ∧ Below w.heap.size w w' := by
  have HAw := hide awake_e
  have l1 : ¬ (40 : Int) < (len : Int) := by omega
  have HO := hide (lopen_e w)
  have HPg := hide hp
  have HCt := hide (fun V t pm n P K (h : Tr V t pm n P K true) => count_e V t pm n h)
  have HLn := hide hlen
  have HG := hide hG
  have HGl := hide hGl
  have HA := hide hA
  have HAt := hide hAt
  have HCL := hide CL
  have HCF := hide CF
  have HCT := hide CT
  have HCG := hide CG
  have Hcase := hide hcase
  clear hp hlen hG hGl hA hAt CL CF CT CG hcase
  go_enter Tryz.func7, Tryz.ntmps7
  go_wp2_with (first
    | (go_at_call 34; (with_reducible refine Calls.mono HO.out ?_); rintro e w1 ⟨t, rfl, pm, h1, h2, h3, h4⟩; have HT1 := hide h1; have HB1 := hide h2; have HP1 := hide (And.intro h3 h4); clear h1 h2 h3 h4))
  go_loopw [7] (fun kv wr => ∃ k : Nat, kv = .int .i64 (k : Int) ∧ k ≤ len ∧ Tr wr t pm k (pgs Q k) k true ∧ Below w.heap.size w wr) (fun kv _ => len - (intOf kv).toNat)
  case atStart => exact ⟨0, rfl, by omega, HT1.out, HB1.out⟩
  case round =>
    obtain ⟨k, rfl, hk, ht, hbw⟩ := hrel
    by_cases hlt : k < len
    · have l2 : (k : Int) < (len : Int) := by omega
      have l3 : (0 : Int) ≤ (k : Int) := by omega
      obtain ⟨b, o, rfl, hc⟩ := HPg.out (by omega)
      have hQ := (hc k hlt).1
      have HR := hide (fun j v (hj : (bcl (Q k))[j]? = some v) => cell_later1 hbw ((hc k hlt).2 j v hj))
      have hwk : IntKind.i64.wrap ((k : Int) + 1) = ((k + 1 : Nat) : Int) := by rw [IntKind.wrap_i64]; have := HLn.out; omega
      have HPt := hide (put_next wr t pm k ht (by have := HLn.out; omega) (by have := HLn.out; omega) (Q k) hQ)
      have HBw := hide hbw
      have HQl : Hid ((Tryz.prog.info? 32).map (·.size) = some (bcl (Q k)).length) := hide (by rw [page_size hQ]; simp [bc])
      clear hc ht hbw hQ
      go_wp2_with (first
        | ((with_reducible refine atLd 32 ?_); refine wpList_load_mid rfl 32 _ rfl b (o + k * 256) (by rfl) (bcl (Q k)) _ HR.out page_arr rfl HQl.out ?_)
        | (go_at_call 15; (with_reducible refine Calls.mono HPt.out ?_); rintro e w5 ⟨rfl, ht, ho⟩; have HT5 := hide ht; have HB5 := hide (below_only HBw.out ho (two_in HP1.out.1 HP1.out.2)); clear ht ho))
      go_roundw
      case rel => exact ⟨k + 1, rfl, by omega, HT5.out, HB5.out⟩
      case measure => simp [intOf]; omega
    · have l2 : ¬ (k : Int) < (len : Int) := by omega
      obtain rfl : k = len := by omega
      have HT4 := hide ht
      have HB4 := hide hbw
      clear ht hbw hlt hk
      rcases Hcase.out with ⟨rfl, rfl, rfl, rfl⟩ | ⟨rfl, rfl, rfl, rfl, ⟨x3, x4⟩, y1, y2⟩ | ⟨rfl, rfl, rfl, rfl, x3, x4⟩ | ⟨rfl, rfl, rfl, rfl, ⟨x3, x4⟩, y1, y2⟩ | ⟨rfl, rfl, rfl, rfl, x3, x4⟩ | ⟨rfl, rfl, rfl, rfl, y1, y2⟩ | ⟨rfl, rfl, rfl, rfl⟩
      all_goals
        go_wp2_with (first
          | (go_at_call 45; (with_reducible refine Calls.mono (HCL.out _ _ _ HT4.out) ?_); rintro e w5 ⟨rfl, hb⟩; have HT5 := hide (HT4.out.later hb); have HB5 := hide (below_trans HB4.out hb); clear hb)
          | (go_at_call 44; (with_reducible refine Calls.mono (HCF.out _ _ _ HT5.out) ?_); rintro e w6 ⟨v, rfl, hov, hb⟩; obtain ⟨pf, cf, rfl⟩ := own_form hov; have HO6 := hide hov; have HT6 := hide (HT5.out.later hb); have HB6 := hide (below_trans HB5.out hb); clear hb hov))
        go_loopw [11] (fun jv wq => ∃ j : Nat, jv = .int .i64 (j : Int) ∧ j ≤ G.length ∧ wq = w6) (fun jv _ => G.length - (intOf jv).toNat)
        case atStart => exact ⟨0, rfl, by omega, rfl⟩
        case round =>
          obtain ⟨j, rfl, hj, rfl⟩ := hrel
          by_cases hjl : j < G.length
          · have m1 : (j : Int) < (G.length : Int) := by omega
            have m0 : (0 : Int) ≤ (j : Int) := by omega
            obtain ⟨gg, rfl, cj⟩ := own_cell HO6.out hjl
            have hgj := HG.out G[j] (List.getElem_mem hjl)
            have q1 : ¬ (G[j] : Int) < 2 := by omega
            have q2 : ¬ (k : Int) < (G[j] : Int) := by omega
            have hwj := wrap_small j _ hjl HGl.out
            clear hgj
            go_wp2
            go_roundw
            case rel => exact ⟨j + 1, rfl, by omega, by first | rfl | trivial⟩
            case measure => simp [intOf]; omega
          · have m1 : ¬ (j : Int) < (G.length : Int) := by omega
            go_wp2_with (first
              | (go_at_call 38; (with_reducible refine Calls.mono (HCT.out _ _ _ HT6.out) ?_); rintro e w7 ⟨rfl, ha7, ho⟩; have HA7 := hide ha7; obtain ⟨P7, K7, ht7⟩ := HAt.out _ _ _ ha7; have HT7 := hide ht7; have HB7 := hide (below_only HB6.out ho (two_in HP1.out.1 HP1.out.2)); clear ha7 ho ht7)
              | (go_at_call 21; (with_reducible refine Calls.mono (HCt.out _ _ _ _ _ _ HT7.out) ?_); rintro e w8 ⟨rfl, hb⟩; have HA8 := hide (HA.out _ _ _ _ HA7.out hb); have HB8 := hide (below_trans HB7.out hb); clear hb HT7)
              | (go_at_call 41; (with_reducible refine Calls.mono (HCG.out _ _ _ HA8.out) ?_); rintro e w9 ⟨rfl, h9, ho⟩; obtain ⟨P9, K9, ht9⟩ := h9; have HT9 := hide ht9; have HB9 := hide (below_only HB8.out ho (two_in HP1.out.1 HP1.out.2)); clear ho ht9)
              | (go_at_call 41; (with_reducible refine Calls.mono (HCG.out _ _ _ HA7.out) ?_); rintro e w9 ⟨rfl, h9, ho⟩; obtain ⟨P9, K9, ht9⟩ := h9; have HT9 := hide ht9; have HB9 := hide (below_only HB7.out ho (two_in HP1.out.1 HP1.out.2)); clear ho ht9)
              | (go_at_call 21; (with_reducible refine Calls.mono (HCt.out _ _ _ _ _ _ HT9.out) ?_); rintro e w10 ⟨rfl, hb⟩; have HB9 := hide (below_trans HB9.out hb); clear hb)
              | (go_at_call 33; (with_reducible refine Calls.mono (HAw.out _) ?_); rintro e w11 ⟨rfl, hb⟩; have HB11 := hide (below_trans HB9.out hb); clear hb))
            go_ret
            exact ⟨rfl, HB11.out⟩
end Go.Proofs.YtenfjbcigkolaaaGreat

namespace Go.Proofs.YtenfjbcigkolaaaGreat
open Go.ChangeShapes Go.WideShapes Go.ChangeAt Go.RowKit Go.Maps
set_option linter.unusedVariables false

theorem fo_bad {w : World} {t pm n : Nat} {P : Nat → List UInt8} {K : Nat} (h : Tr w t pm n P K true) (hb : ¬ (1 ≤ n ∧ fok (P 1))) : ∃ V, FoK w (some ⟨t, 0, none⟩) V 8 := by
  by_cases h1 : 1 ≤ n
  · have hf : ¬ fok (P 1) := fun hf => hb ⟨h1, hf⟩
    have := FoK.page h h1
    unfold rdE rdV at this
    rw [if_neg hf, if_neg hf] at this
    exact ⟨_, this⟩
  · obtain rfl : n = 0 := by omega
    exact ⟨_, FoK.none h⟩
theorem nil_row (w : World) (base : Nat) : w.ownsRow base 3 1 (.slice none 0 0) ([] : List Nat).length (inL []) := World.ownsRow_nil _ _ _ _
/-- What is behind Take. -/
def TkA (n' : Nat) (N : Nat → Nat) (V : World) (t pm : Nat) : Prop := ∃ K P L, K ≤ 60 ∧ Ld V t pm n' P K L N
/-- Over pages of which the first one is a first page. -/
theorem any_ok (w : World) (p : Option Addr) (len cap : Nat) (Q : Nat → List UInt8) (a : Int) (hp : PgP w p len Q) (hlen : len ≤ 40) (h1 : 1 ≤ len) (hf : fok (pgs Q len 1)) :
    Calls Tryz.prog 7 #[.slice p len cap, .int .i64 a] w fun e w' => e = .returned (.bool true) ∧ Below w.heap.size w w' := by
  obtain ⟨P, hP⟩ : ∃ P, P = pgs Q len := ⟨_, rfl⟩
  obtain ⟨L, hL⟩ : ∃ L, L = linkV (P 1) := ⟨_, rfl⟩
  obtain ⟨N, hN⟩ : ∃ N, N = rdN (P 1) := ⟨_, rfl⟩
  have ld : ∀ V t pm, Tr V t pm len (pgs Q len) len true → Ld V t pm len P len L N := fun V t pm h => by
    rw [hL, hN, hP]; exact ld_any h h1 hf
  have hLl : L < 4294967296 := by rw [hL]; exact linkV_lt _
  have CL : ∀ V t pm, Tr V t pm len (pgs Q len) len true → Calls Tryz.prog 45 #[.pointer (some ⟨t, 0, none⟩)] V fun e w' => e = .returned (.int .i64 0) ∧ Below V.heap.size V w' := fun V t pm h => laid_e V _ _ 0 (ld V t pm h).fo
  obtain ⟨R, hR⟩ : ∃ R, R = freeR P len (len - 1) L := ⟨_, rfl⟩
  obtain ⟨F, G, hFR, hG, hGl, CF⟩ : ∃ (F : Int) (G : List Nat), ((F = 0 ∧ R = some G) ∨ F = 8) ∧ (∀ y ∈ G, 2 ≤ y ∧ y ≤ len) ∧ G.length ≤ 1000 ∧ ∀ V t pm, Tr V t pm len (pgs Q len) len true → Calls Tryz.prog 44 #[.pointer (some ⟨t, 0, none⟩)] V fun e w' => ∃ v, e = .returned (.tuple #[v, .int .i64 F]) ∧ w'.ownsRow V.heap.size 3 1 v G.length (inL G) ∧ Below V.heap.size V w' := by
    cases hq : R with
    | none =>
      refine ⟨8, [], .inr rfl, by simp, by simp, fun V t pm h => (free_e V t pm len (ld V t pm h)).mono fun e w' hh => ?_⟩
      rw [← hR, hq] at hh
      exact ⟨_, hh.1, nil_row _ _, hh.2⟩
    | some G =>
      have hfr : freeR P len (len - 1) L = some G := by rw [← hR, hq]
      refine ⟨0, G, .inl ⟨rfl, rfl⟩, freeR_all _ _ _ hfr, by have := freeR_len _ _ _ hfr; omega, fun V t pm h => (free_e V t pm len (ld V t pm h)).mono fun e w' hh => ?_⟩
      rw [hfr] at hh
      exact hh
  obtain ⟨g, X, n', hTX, hn', CT⟩ : ∃ (g X : Int) (n' : Nat), ((g = 0 ∧ ¬ X < 2 ∧ ¬ (n' : Int) < X) ∨ (g = 8 ∧ R = none)) ∧ n' ≤ 41 ∧ ∀ V t pm, Tr V t pm len (pgs Q len) len true → Calls Tryz.prog 38 #[.pointer (some ⟨t, 0, none⟩)] V fun e w' => e = .returned (.tuple #[.int .i64 X, .int .i64 g]) ∧ TkA n' N w' t pm ∧ Only [t, pm] V w' := by
    by_cases h0 : L = 0
    · refine ⟨0, (len : Int) + 1, len + 1, .inl ⟨rfl, by omega, by omega⟩, by omega, fun V t pm h => ?_⟩
      have l := ld V t pm h
      rw [h0] at l
      refine (take_more V t pm len l (by omega) (by omega)).mono fun e w' hh => ⟨hh.1, ⟨_, _, 0, by omega, hh.2.1, by omega, ?_, by omega, l.nm⟩, hh.2.2⟩
      rw [upP_off _ _ (by omega)]; exact l.fst
    · by_cases hok : (1 ≠ len ∧ 2 ≤ L ∧ L ≤ len) ∧ isFree (P L) = true
      · refine ⟨0, (L : Int), len, .inl ⟨rfl, by omega, by omega⟩, by omega, fun V t pm h => ?_⟩
        have l := ld V t pm h
        exact (take_free V t pm len l (by omega) hok.1.2.1 hok.1.2.2 hok.2 (by omega)).mono fun e w' hh => ⟨hh.1, ⟨_, _, linkV (P L), by omega, hh.2.1, h1, fst_of (upP_at _ _ _) (linkV_lt _) l.nm, linkV_lt _, l.nm⟩, hh.2.2⟩
      · refine ⟨8, 0, len, .inr ⟨rfl, by rw [hR]; exact freeR_none h0 hok h1⟩, by omega, fun V t pm h => ?_⟩
        have l := ld V t pm h
        exact (take_bad V t pm len l h0 hok).mono fun e w' hh => ⟨hh.1, ⟨_, _, L, by omega, l.later hh.2⟩, Only.of_below hh.2⟩
  obtain ⟨h, hh, CG⟩ : ∃ h : Int, ((h = 0 ∧ 2 ≤ a ∧ a ≤ (n' : Int)) ∨ h = 2) ∧ ∀ V t pm, TkA n' N V t pm → Calls Tryz.prog 41 #[.pointer (some ⟨t, 0, none⟩), .int .i64 a] V fun e w' => e = .returned (.int .i64 h) ∧ (∃ P K, Tr w' t pm n' P K true) ∧ Only [t, pm] V w' := by
    cases hm : mbF a (n' : Int) with
    | true =>
      have ha : 2 ≤ a ∧ a ≤ (n' : Int) := of_decide_eq_true hm
      obtain ⟨k, rfl⟩ : ∃ k : Nat, a = (k : Int) := ⟨a.toNat, by omega⟩
      refine ⟨0, .inl ⟨rfl, ha⟩, fun V t pm ht => ?_⟩
      obtain ⟨K, P, L, hK, l⟩ := ht
      exact (give_e V t pm n' l (by omega) k (by omega) (by omega)).mono fun e w' hh => ⟨hh.1, ⟨_, _, hh.2.1⟩, hh.2.2⟩
    | false =>
      refine ⟨2, .inr rfl, fun V t pm ht => ?_⟩
      obtain ⟨K, P, L, hK, l⟩ := ht
      exact (give_arg V t pm n' l a hm).mono fun e w' hh => ⟨hh.1, ⟨_, _, l.tr.later hh.2⟩, Only.of_below hh.2⟩
  refine any_core w p len cap Q a hp hlen 0 F g h X G n' ?_ hG hGl (TkA n' N) (fun V V' t pm ha hb => ?_) (fun V t pm ha => ?_) CL CF CT CG
  · rcases hFR with ⟨rfl, hRG⟩ | rfl
    · rcases hTX with ⟨rfl, hx⟩ | ⟨rfl, hx⟩
      · rcases hh with ⟨rfl, hy⟩ | rfl
        · exact .inr (.inl ⟨rfl, rfl, rfl, rfl, hx, hy⟩)
        · exact .inr (.inr (.inl ⟨rfl, rfl, rfl, rfl, hx⟩))
      · rw [hx] at hRG; cases hRG
    · rcases hTX with ⟨rfl, hx⟩ | ⟨rfl, hx⟩
      · rcases hh with ⟨rfl, hy⟩ | rfl
        · exact .inr (.inr (.inr (.inl ⟨rfl, rfl, rfl, rfl, hx, hy⟩)))
        · exact .inr (.inr (.inr (.inr (.inl ⟨rfl, rfl, rfl, rfl, hx⟩))))
      · rcases hh with ⟨rfl, hy⟩ | rfl
        · exact .inr (.inr (.inr (.inr (.inr (.inl ⟨rfl, rfl, rfl, rfl, hy⟩)))))
        · exact .inr (.inr (.inr (.inr (.inr (.inr ⟨rfl, rfl, rfl, rfl⟩)))))
  · obtain ⟨K, P, L, hK, l⟩ := ha
    exact ⟨K, P, L, hK, l.later hb⟩
  · obtain ⟨K, P, L, hK, l⟩ := ha
    exact ⟨P, K, l.tr⟩
theorem any_bad (w : World) (p : Option Addr) (len cap : Nat) (Q : Nat → List UInt8) (a : Int) (hp : PgP w p len Q) (hlen : len ≤ 40) (hf : ¬ (1 ≤ len ∧ fok (pgs Q len 1))) :
    Calls Tryz.prog 7 #[.slice p len cap, .int .i64 a] w fun e w' => e = .returned (.bool true) ∧ Below w.heap.size w w' := by
  refine any_core w p len cap Q a hp hlen 8 8 8 8 0 [] len (.inl ⟨rfl, rfl, rfl, rfl⟩) (by simp) (by simp) (fun V t pm => Tr V t pm len (pgs Q len) len true) (fun V V' t pm ha hb => ha.later hb) (fun V t pm ha => ⟨_, _, ha⟩) ?_ ?_ ?_ ?_
  · intro V t pm h
    obtain ⟨VV, hv⟩ := fo_bad h hf
    exact laid_e V _ _ 8 hv
  · intro V t pm h
    obtain ⟨VV, hv⟩ := fo_bad h hf
    exact (free_stop V _ _ 8 hv (by decide)).mono fun e w' hh => ⟨_, hh.1, nil_row _ _, hh.2⟩
  · intro V t pm h
    obtain ⟨VV, hv⟩ := fo_bad h hf
    exact (take_stop V _ _ 8 (.on h.chK hv) (by decide)).mono fun e w' hh => ⟨hh.1, h.later hh.2, Only.of_below hh.2⟩
  · intro V t pm h
    obtain ⟨VV, hv⟩ := fo_bad h hf
    exact (give_stop V _ _ 8 (.on h.chK hv) (by decide) a).mono fun e w' hh => ⟨hh.1, ⟨_, _, h.later hh.2⟩, Only.of_below hh.2⟩
set_option maxRecDepth 20000 in
set_option maxHeartbeats 2000000 in
theorem any_walk (w : World) (p : Option Addr) (len cap : Nat) (Q : Nat → List UInt8) (a : Int) (hp : PgP w p len Q) :
    Calls Tryz.prog 7 #[.slice p len cap, .int .i64 a] w fun e w' => e = .returned (.bool true) ∧ Below w.heap.size w w' := by
  by_cases hlen : len ≤ 40
  · by_cases hf : 1 ≤ len ∧ fok (pgs Q len 1)
    · exact any_ok w p len cap Q a hp hlen hf.1 hf.2
    · exact any_bad w p len cap Q a hp hlen hf
  · have HAw := hide awake_e
    have l1 : (40 : Int) < (len : Int) := by omega
    go_enter Tryz.func7, Tryz.ntmps7
    go_wp2_with (first
      | (go_at_call 33; (with_reducible refine Calls.mono (HAw.out _) ?_); rintro e w1 ⟨rfl, hb⟩; have HB1 := hide hb; clear hb))
    go_ret
    exact ⟨rfl, HB1.out⟩
end Go.Proofs.YtenfjbcigkolaaaGreat
