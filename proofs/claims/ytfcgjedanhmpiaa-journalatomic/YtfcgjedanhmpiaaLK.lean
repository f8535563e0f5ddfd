/- A commit, as the statement on crashes sees it. -/
/- The walk of JournalAtomic. -/
import Derived.Test.YtfcgjedanhmpiaaLI
import Derived.Test.YtfcgjedanhmpiaaAJS
namespace Go.Proofs.Ytfcgjedanhmpiaa
open Go.ChangeShapes Go.WideShapes Go.ChangeAt Go.RowKit
open Go.ChangeMaps (setBlock)
set_option linter.unusedVariables false

theorem aftL_out {nw count n : Nat} {W : Nat → List UInt8} {N : Nat → Nat} {L : Nat → List UInt8} (hN : Rise count n N) {k : Nat} : ∀ m, m ≤ n → (∀ j, j < m → N j ≠ k + 1) → aftL nw W N L m k = padL nw W k
  | 0, _, _ => rfl
  | m + 1, hm, h => by
    show (if k = N m - 1 then L m else aftL nw W N L m k) = _
    have h1 := h m (Nat.lt_succ_self m)
    have h2 := (hN.low m (by omega)).1
    rw [if_neg (by omega)]
    exact aftL_out hN m (by omega) (fun j hj => h j (by omega))
theorem aftL_in {nw count n : Nat} {W : Nat → List UInt8} {N : Nat → Nat} {L : Nat → List UInt8} (hN : Rise count n N) {j : Nat} : ∀ m, m ≤ n → j < m → aftL nw W N L m (N j - 1) = L j
  | 0, _, h => by omega
  | m + 1, hm, h => by
    show (if N j - 1 = N m - 1 then L m else aftL nw W N L m (N j - 1)) = _
    by_cases e : j = m
    · subst e; rw [if_pos rfl]
    · have h1 := hN.up j m (by omega) (by omega)
      have h2 := (hN.low j (by omega)).1
      rw [if_neg (by omega)]
      exact aftL_in hN m (by omega) (by omega)
def pgF (db : List UInt8) : Nat → List UInt8 := fun k => pgL db (k + 1)
theorem aft_is {db db' : List UInt8} {old count n : Nat} {N : Nat → Nat} {L : Nat → List UInt8} (h : Aft db db' count n N L) (hdb : db.length = 256 * old) (hN : Rise count n N) (hall : ∀ p, old < p → p ≤ count → ∃ j, j < n ∧ N j = p) {k : Nat} (hk : k < count) : pgF db' k = aftL old (pgF db) N L n k := by
  rcases h.pgs (k + 1) (by omega) (by omega) with ⟨j, h1, h2, h3⟩ | ⟨h1, h2⟩
  · have := aftL_in (nw := old) (W := pgF db) (L := L) hN n (Nat.le_refl _) h1
    rw [h2, Nat.add_sub_cancel] at this
    rw [this]; exact h3
  · have ho : k + 1 ≤ old := by
      rcases Nat.lt_or_ge old (k + 1) with c | c
      · obtain ⟨j, h3, h4⟩ := hall (k + 1) c (by omega)
        exact absurd h4 (h1 j h3)
      · exact c
    rw [aftL_out hN n (Nat.le_refl _) h1]
    unfold padL
    rw [if_pos (by omega)]
    exact h2 (by omega)
theorem pgF_len {db : List UInt8} {old : Nat} (h : db.length = 256 * old) (j : Nat) (hj : j < old) : (pgF db j).length = 256 := pgL_length (by omega) (by omega)
/-- Changes that were handed in. -/
def ChA (w : World) (p : Option Addr) (n : Nat) (cv : Nat → Int) (pb : Nat → Option Addr) (nb cb : Nat → Nat) (B : Nat → Nat → UInt8) : Prop := 0 < n → ∃ b o, p = some ⟨b, o, none⟩ ∧ ∀ i, i < n → w.cell? ⟨b, o + i * 2, none⟩ = some (.int .i64 (cv i)) ∧ w.cell? ⟨b, o + i * 2 + 1, none⟩ = some (.slice (pb i) (nb i) (cb i)) ∧ ByA w (pb i) (nb i) (B i)
structure Cm (w V w' : World) (r : Int) (D : DS) (k old count n : Nat) (N : Nat → Nat) (L : Nat → List UInt8) (x : Int) : Prop where
  rows : Rows2 V w'
  how : (x = 0 ∧ ∃ D' k', Cl w w' r D' k' ∧ k' ≤ k + 100 ∧ Cd (seenOf D' nmJ) ∧ (seenOf D' nmD).length = 256 * count ∧ (∀ j, j < count → pgF (seenOf D' nmD) j = aftL old (pgF (seenOf D nmD)) N L n j) ∧ (D.fuse = 0 → D'.fuse = 0)) ∨
    (x = 7 ∧ D.fuse ≠ 0 ∧ ∃ D' k' new m tl T P, Dw w w' r D' k' (Good (seenOf D nmD) new old m tl T P) ∧ k' ≤ k + 100 ∧ Gd (seenOf D nmD) old m tl T P ∧ new.length = 256 * count ∧ ∀ j, j < count → pgF new j = aftL old (pgF (seenOf D nmD)) N L n j)
theorem com_x (w V : World) {r : Int} (hr : 20000 ≤ r) {D : DS} {k old : Nat} (h : Cl w V r D k) (hcd : Cd (seenOf D nmJ)) (hlen : (seenOf D nmD).length = 256 * old) (ho : old ≤ 15) (hk : k ≤ 10000) (count : Nat) (hcount : count ≤ 15) (nb : Nat) (B : Nat → UInt8) (p : Option Addr) (n cap : Nat) (hn : n = (selL old nb B count).length) (hp : PgA V p n (fun j => (selN old nb B count j : Int)) (selP old nb B count)) :
    Calls Try.prog 8 #[.pointer (some ⟨w.heap.size + 1, 0, none⟩), .int .i64 (count : Int), .slice p n cap] V fun e w' => ∃ x : Int, e = .returned (.int .i64 x) ∧ Cm w V w' r D k old count n (selN old nb B count) (selP old nb B count) x := by
  obtain ⟨who, R⟩ := h.rep
  have hrise : Rise count n (selN old nb B count) := by rw [hn]; exact selL_rise old nb B count
  have hall : ∀ p, old < p → p ≤ count → ∃ j, j < n ∧ selN old nb B count j = p := fun p h1 h2 => by rw [hn]; exact selL_all h1 h2
  refine (commit_x V _ _ D who R hr h.ji h.clean count old hlen ho hcount p n cap (selN old nb B count) (selP old nb B count) hp (fun j _ => fullL_length _) (by rw [hn]; exact Nat.le_trans (selL_len _ _ _ _) hcount) hk (by rw [hn]; exact selL_may (by omega)) hrise hall hcd _ _ _ rfl rfl rfl).mono ?_
  rintro e w' ⟨x, rfl, hc⟩
  refine ⟨x, rfl, ?_⟩
  rcases hc.ex with ⟨rfl, D', who', i', hm, hj, hi, hch, hcd', ha, hf⟩ | ⟨rfl, hnz, D', who', i', new, hm, hj, hi, hd, hs, ha⟩
  · exact ⟨Rows2.moved R hm, .inl ⟨rfl, D', i', ⟨⟨who', hm.rep⟩, hj, h.bel.trans (hm.mv.below R), hch⟩, hi, hcd', ha.len, fun j hj => aft_is ha hlen hrise hall hj, hf⟩⟩
  · refine ⟨Rows2.moved R hm, .inr ⟨rfl, hnz, D', i', new, _, _, _, _, ⟨⟨who', hm.rep⟩, hj, h.bel.trans (hm.mv.below R), hd, hs⟩, hi, ?_, ha.len, fun j hj => aft_is ha hlen hrise hall hj⟩⟩
    exact ⟨hlen, ho, Nat.le_trans (touch_few hrise) ho, touT_rise hrise, fun k hk => rfl, fun k hk => touT_mem hk, fun p hp => by
      obtain ⟨j, hj, e⟩ := List.getElem_of_mem hp
      exact ⟨j, hj, by unfold touT; rw [getD_at hj]; exact e⟩⟩
theorem tell_cl (w V : World) {r : Int} {D : DS} {k old : Nat} (h : Cl w V r D k) (hlen : (seenOf D nmD).length = 256 * old) : Calls Try.prog 13 #[.pointer (some ⟨w.heap.size + 1, 0, none⟩)] V fun e w' => (∃ q c, e = .returned (.slice q old c) ∧ PgR w' q old (pgF (seenOf D nmD))) ∧ V.grownBy w' none := by
  obtain ⟨who, R⟩ := h.rep
  exact tell_j V _ _ D who R h.ji old hlen
theorem new_cl (w : World) (r : Int) (h0 : 0 ≤ r) : Calls Try.prog 12 #[.int .i64 r] w fun e w' => e = .returned (.pointer (some ⟨w.heap.size + 1, 0, none⟩)) ∧ ∃ D, Cl w w' r D 0 ∧ D.fuse = 0 ∧ Cd (seenOf D nmJ) ∧ seenOf D nmD = [] :=
  Calls.mono (new_any w r h0) (fun e w' h => ⟨h.1, _, ⟨h.2.2, JI.fresh _ _, grown_below (Nat.le_refl _) h.2.1, rfl⟩, rfl, .inl rfl, rfl⟩)
end Go.Proofs.Ytfcgjedanhmpiaa

namespace Go.Proofs.Ytfcgjedanhmpiaa
open Go.ChangeShapes Go.WideShapes Go.ChangeAt Go.RowKit
open Go.ChangeMaps (setBlock)
set_option linter.unusedVariables false

theorem PgR.congr {w : World} {p : Option Addr} {n : Nat} {L M : Nat → List UInt8} (h : PgR w p n L) (he : ∀ j, j < n → L j = M j) : PgR w p n M := fun h0 => by
  obtain ⟨g, cur, e, hb, hc⟩ := h h0
  exact ⟨g, cur, e, hb, fun k hk => by rw [← he k hk]; exact hc k hk⟩
/-- Behind the last commit. -/
structure Fin (w V : World) (k : Nat) (db new : List UInt8) (old cnt m : Nat) (tl : List Nat) (T : Nat → Nat) (P : Nat → List UInt8) (q1 : Option Addr) (q2 : Option Addr) (M : Nat → List UInt8) (D : DS) (k' : Nat) : Prop where
  gd : Gd db old m tl T P
  len : new.length = 256 * cnt
  few : cnt ≤ 15
  le : k' ≤ k
  st : (Cl w V 100000 D k' ∧ Good db new old m tl T P (seenOf D nmD) (seenOf D nmJ)) ∨ Dw w V 100000 D k' (Good db new old m tl T P)
  was : PgR V q1 old (pgF db)
  now : PgR V q2 cnt M
  eq : ∀ j, j < cnt → pgF new j = M j
def Fi (w V : World) (k : Nat) (a b : Value) : Prop := ∃ db new old cnt m tl T P q1 c1 q2 c2 M D k', a = .slice q1 old c1 ∧ b = .slice q2 cnt c2 ∧ Fin w V k db new old cnt m tl T P q1 q2 M D k'
def Mo (w V : World) (k : Nat) : Prop := ∃ D k' old, k' ≤ k ∧ Cl w V 100000 D k' ∧ D.fuse = 0 ∧ Cd (seenOf D nmJ) ∧ (seenOf D nmD).length = 256 * old ∧ old ≤ 15
theorem fin_ok {w V : World} {k : Nat} {D : DS} {k' old : Nat} {q : Option Addr} {c : Nat} {M : Nat → List UInt8} (hk : k' ≤ k) (h : Cl w V 100000 D k') (hc : Cd (seenOf D nmJ)) (hl : (seenOf D nmD).length = 256 * old) (ho : old ≤ 15) (hp : PgR V q old M) (he : ∀ j, j < old → pgF (seenOf D nmD) j = M j) : Fi w V k (.slice q old c) (.slice q old c) :=
  ⟨seenOf D nmD, seenOf D nmD, old, old, 0, [], fun _ => 0, fun _ => [], q, c, q, c, M, D, k', rfl, rfl, ⟨hl, ho, by omega, ⟨fun i j _ h => by omega, fun j h => by omega⟩, fun k h => by omega, fun k h => by omega, fun p h => by cases h⟩, hl, ho, hk, .inl ⟨h, .inl ⟨hc, rfl⟩⟩, hp.congr (fun j hj => (he j hj).symm), hp, he⟩

set_option maxHeartbeats 32000000 in
set_option maxRecDepth 20000 in
theorem atomic_walk (w : World) (p : Option Addr) (nl cl : Nat) (at_ : Int) (hat : at_ ≤ 9223372036854775807) (cv : Nat → Int) (pb : Nat → Option Addr) (nb cb : Nat → Nat) (B : Nat → Nat → UInt8) (hch : ChA w p nl cv pb nb cb B) (pw : Option Addr) (nw cw : Nat) (av : Nat → Int) (pc : Nat → Option Addr) (xs : Nat → List Int) (cc : Nat → Nat) (hwa : WaA w pw nw av pc xs cc) :
    Calls Try.prog 4 #[.slice p nl cl, .int .i64 at_, .slice pw nw cw] w fun e w' => e = .returned (.bool true) ∧ Below w.heap.size w w' := by
  have HAw : Hid (∀ V, Below w.heap.size w V → Calls Try.prog 11 #[] V fun e w' => e = .returned (.bool true) ∧ Below w.heap.size w w') := fun V hb => Calls.mono (awake_j V) (fun e w' h => ⟨h.1, hb.trans (h.2.mono hb.size)⟩)
  have HB0 := hideJ (Below.refl w.heap.size w)
  by_cases hbig : 10 < nl
  · have l1 : (10 : Int) < (nl : Int) := by omega
    clear hch hwa
    go_enter Try.func4, Try.ntmps4
    go_wp2_with (go_at_call 11; (with_reducible refine Calls.mono (HAw.out _ HB0.out) ?_); rintro e w1 ⟨rfl, hb⟩; have HB1 := hideJ hb; clear hb)
    go_ret
    exact ⟨rfl, HB1.out⟩
  by_cases hbig2 : 6 < nw
  · have l1 : ¬ (10 : Int) < (nl : Int) := by omega
    have l2 : (6 : Int) < (nw : Int) := by omega
    clear hch hwa
    go_enter Try.func4, Try.ntmps4
    go_wp2_with (go_at_call 11; (with_reducible refine Calls.mono (HAw.out _ HB0.out) ?_); rintro e w1 ⟨rfl, hb⟩; have HB1 := hideJ hb; clear hb)
    go_ret
    exact ⟨rfl, HB1.out⟩
  have l1 : ¬ (10 : Int) < (nl : Int) := by omega
  have l2 : ¬ (6 : Int) < (nw : Int) := by omega
  have HNw0 := hideJ (new_cl w 100000 (by decide))
  have HCh := hideJ hch
  have HWa := hideJ hwa
  have HN := hideJ (show nl ≤ 10 by omega)
  have HNw := hideJ (show nw ≤ 6 by omega)
  have HAt := hideJ hat
  clear hch hwa hbig hbig2 hat
  go_enter Try.func4, Try.ntmps4
  go_wp2_with (go_at_call 12; (with_reducible refine Calls.mono HNw0.out ?_); rintro e w1 ⟨rfl, D1, h1, hf1, hc1, hd1⟩; have HC1 := hideJ h1; have HF1 := hideJ (And.intro hf1 (And.intro hc1 hd1)); clear h1 hf1 hc1 hd1)
  clear l1 l2
  go_loopw [8, 9, 10] (fun a b iv wr => ∃ i : Nat, i ≤ nl ∧ iv = .int .i64 (i : Int) ∧ ((i < nl ∧ Mo w wr (100 * i)) ∨ (i = nl ∧ Fi w wr (100 * i) a b))) (fun _ _ iv _ => nl - (intOf iv).toNat)
  case atStart =>
    refine ⟨0, Nat.zero_le _, rfl, ?_⟩
    by_cases e : 0 < nl
    · exact .inl ⟨e, D1, 0, 0, Nat.le_refl _, HC1.out, HF1.out.1, HF1.out.2.1, by rw [HF1.out.2.2]; rfl, by omega⟩
    · refine .inr ⟨by omega, fin_ok (M := fun _ => []) (Nat.le_refl _) HC1.out HF1.out.2.1 (by rw [HF1.out.2.2]; rfl) (by omega) (fun h => by omega) (fun j hj => by omega)⟩
  case round =>
    obtain ⟨i, hi, rfl, hmode⟩ := hrel
    by_cases hlt : i < nl
    · obtain ⟨D, k, old, hk, hcl, hfz, hcd, hlen, ho⟩ : Mo w wr (100 * i) := by
        rcases hmode with ⟨_, h⟩ | ⟨e, _⟩
        · exact h
        · omega
      have HCl0 := hideJ hcl
      have HKk := hideJ (show k ≤ 10000 by have := HN.out; omega)
      have HK1 := hideJ hk
      have HFz := hideJ hfz
      have HCd := hideJ hcd
      have HLen := hideJ hlen
      have HOl := hideJ ho
      clear hmode hk hcl hfz hcd hlen ho
      have m1 : (i : Int) < (nl : Int) := by omega
      have m0 : (0 : Int) ≤ (i : Int) := by omega
      have hw1 : IntKind.i64.wrap ((i : Int) + 1) = (i : Int) + 1 := by have := HN.out; rw [IntKind.wrap_i64]; omega
      have HJ := hideJ hlt
      have HTl := hideJ (fun U h => tell_cl w U (r := 100000) (D := D) (k := k) (old := old) h HLen.out)
      obtain ⟨b, o, rfl, hcells⟩ := HCh.out (by omega)
      have HCe := hideJ (fun V (hb : Below w.heap.size w V) => And.intro (below_cell hb (hcells i hlt).1) (below_cell hb (hcells i hlt).2.1))
      have HBy : Hid (∀ V, Below w.heap.size w V → ByA V (pb i) (nb i) (B i)) := fun V hb hn => by
        obtain ⟨b', o', e', h4⟩ := (hcells i hlt).2.2 hn
        exact ⟨b', o', e', fun j hj => below_cell hb (h4 j hj)⟩
      obtain ⟨count, hcount, hcv⟩ := and_small (cv i) 15 (by omega)
      have HPg := hideJ (fun V hb => pages_j V (cv i) old count (nb i) (cb i) hcv hcount HOl.out (pb i) (B i) (HBy.out V hb))
      obtain ⟨n, hn⟩ : ∃ n, n = (selL old (nb i) (B i) count).length := ⟨_, rfl⟩
      rw [← hn] at HPg
      have HCm : Hid (∀ V D2, Cl w V 100000 D2 k → seenOf D2 = seenOf D → ∀ q c, PgA V q n (fun j => (selN old (nb i) (B i) count j : Int)) (selP old (nb i) (B i) count) → Calls Try.prog 8 #[.pointer (some ⟨w.heap.size + 1, 0, none⟩), .int .i64 (count : Int), .slice q n c] V fun e w' => ∃ x : Int, e = .returned (.int .i64 x) ∧ Cm w V w' 100000 D2 k old count n (selN old (nb i) (B i) count) (selP old (nb i) (B i) count) x) := fun V D2 h hs q c hp => com_x w V (by omega) h (by rw [hs]; exact HCd.out) (by rw [hs]; exact HLen.out) HOl.out HKk.out count hcount (nb i) (B i) q n c hn hp
      have HR : Hid (Rise count n (selN old (nb i) (B i) count)) := by show Rise _ _ _; rw [hn]; exact selL_rise old (nb i) (B i) count
      have HNn : Hid (n ≤ 15) := by show n ≤ 15; rw [hn]; exact Nat.le_trans (selL_len _ _ _ _) hcount
      have HCo := hideJ hcount
      clear hcells hcv hn hcount
      generalize selN old (nb i) (B i) count = N at HPg HCm HR
      generalize selP old (nb i) (B i) count = L at HPg HCm
      have HAf := hideJ (fun V q2 c2 q3 c3 hq hp => after_j V q2 q3 old c2 n c3 count (pgF (seenOf D nmD)) N L hq (pgF_len HLen.out) hp HR.out (by have := HCo.out; omega) (by have := HOl.out; omega) (by have := HNn.out; omega))
      by_cases hlast : i + 1 = nl
      · have e1 : ((i : Int) + 1 == (nl : Int)) = true := by simp; omega
        have e1' : ((nl : Int) == (i : Int) + 1) = true := by simp; omega
        have e2 : ¬ (i : Int) + 1 < (nl : Int) := by omega
        have e3 : decide ((i : Int) + 1 < (nl : Int)) = false := by simp; omega
        have HLa := hideJ hlast
        have HFu := hideJ (fun V h => fuse_cl w V (r := 100000) (D := D) (i := k) h at_ HAt.out)
        clear hlast
        go_upto_region 14 with (first
          | (go_at_call 13; (with_reducible refine Calls.mono (HTl.out _ HCl0.out) ?_); rintro e w2 ⟨⟨q2, c2, rfl, hp2⟩, hg⟩; have HP2 := hideJ hp2; have HC2 := hideJ (HCl0.out.grown hg); have hc1 := (HCe.out w2 HC2.out.bel).1; have hc2 := (HCe.out w2 HC2.out.bel).2; clear hg hp2)
          | (go_at_call 14; (with_reducible refine Calls.mono (HPg.out _ HC2.out.bel) ?_); rintro e w3 ⟨⟨q3, c3, rfl, hp3⟩, hg⟩; have HP3 := hideJ hp3; have HQ3 := hideJ (HP2.out.grown hg); have HC3 := hideJ (HC2.out.grown hg); clear hg hp3 hc1 hc2)
          | (go_at_call 15; (with_reducible refine Calls.mono (HAf.out _ _ _ _ _ HQ3.out HP3.out) ?_); rintro e w4 ⟨⟨q4, c4, rfl, hp4⟩, hg⟩; have HP4 := hideJ hp4; have HQ4 := hideJ (HQ3.out.grown hg); have HA4 := hideJ (HP3.out.grown hg); have HC4 := hideJ (HC3.out.grown hg); clear hg hp4)
          | (go_at_call 16; (with_reducible refine Calls.mono (HFu.out _ HC4.out) ?_); rintro e w5 ⟨rfl, ⟨D5, h5, hf5, hs5⟩, hr5⟩; have HC5 := hideJ h5; have HS5 := hideJ hs5; have HP5 := hideJ (hr5.1 _ _ _ HP4.out); have HW5 := hideJ (hr5.1 _ _ _ HQ4.out); have HA5 := hideJ (hr5.2 _ _ _ _ HA4.out); clear h5 hf5 hs5 hr5)
          | (go_at_call 8; (with_reducible refine Calls.mono (HCm.out _ _ HC5.out HS5.out _ _ HA5.out) ?_); rintro e w6 ⟨x, rfl, hc6⟩; have HCm6 := hideJ hc6; clear hc6))
        have HSd : Hid (seenOf D5 = seenOf D) := HS5.out
        rcases HCm6.out.how with ⟨rfl, D7, k7, h7, hk7, hc7, hl7, he7, _⟩ | ⟨rfl, _, D7, k7, new, m, tl, T, P, h7, hk7, hg7, hl7, he7⟩
        · rw [HSd.out] at he7
          have HP7 := hideJ (HCm6.out.rows.1 _ _ _ HP5.out)
          have HFi := hideJ (fin_ok (c := c4) (k := 100 * (i + 1)) (by have := HK1.out; omega) h7 hc7 hl7 HCo.out HP7.out he7)
          clear h7 hk7 hc7 hl7 he7
          go_wp2
          refine ⟨⟨i + 1, by have := HLa.out; omega, rfl, .inr ⟨HLa.out, HFi.out⟩⟩, ?_⟩
          simp only [intOf]; have := HJ.out; omega
        · rw [HSd.out] at he7 hg7
          have HFi : Hid (Fi w w6 (100 * (i + 1)) (.slice q2 old c2) (.slice q4 count c4)) := ⟨seenOf D nmD, new, old, count, m, tl, T, P, q2, c2, q4, c4, _, D7, k7, rfl, rfl, hg7, hl7, HCo.out, by have := HK1.out; omega, .inr (by rw [HSd.out] at h7; exact h7), HCm6.out.rows.1 _ _ _ HW5.out, HCm6.out.rows.1 _ _ _ HP5.out, he7⟩
          clear h7 hk7 hg7 hl7 he7
          go_wp2
          refine ⟨⟨i + 1, by have := HLa.out; omega, rfl, .inr ⟨HLa.out, HFi.out⟩⟩, ?_⟩
          simp only [intOf]; have := HJ.out; omega
      · have e1 : ¬ (i : Int) + 1 = (nl : Int) := by omega
        have e3 : ((i : Int) + 1 == (nl : Int)) = false := by simp; omega
        have HLa := hideJ (show i + 1 < nl by omega)
        have HCm0 := hideJ (fun V h q c hp => HCm.out V D h rfl q c hp)
        clear hlast
        go_upto_region 14 with (first
          | (go_at_call 13; (with_reducible refine Calls.mono (HTl.out _ HCl0.out) ?_); rintro e w2 ⟨⟨q2, c2, rfl, hp2⟩, hg⟩; have HP2 := hideJ hp2; have HC2 := hideJ (HCl0.out.grown hg); have hc1 := (HCe.out w2 HC2.out.bel).1; have hc2 := (HCe.out w2 HC2.out.bel).2; clear hg hp2)
          | (go_at_call 14; (with_reducible refine Calls.mono (HPg.out _ HC2.out.bel) ?_); rintro e w3 ⟨⟨q3, c3, rfl, hp3⟩, hg⟩; have HP3 := hideJ hp3; have HQ3 := hideJ (HP2.out.grown hg); have HC3 := hideJ (HC2.out.grown hg); clear hg hp3 hc1 hc2)
          | (go_at_call 15; (with_reducible refine Calls.mono (HAf.out _ _ _ _ _ HQ3.out HP3.out) ?_); rintro e w4 ⟨⟨q4, c4, rfl, hp4⟩, hg⟩; have HP4 := hideJ hp4; have HQ4 := hideJ (HQ3.out.grown hg); have HA4 := hideJ (HP3.out.grown hg); have HC4 := hideJ (HC3.out.grown hg); clear hg hp4)
          | (go_at_call 8; (with_reducible refine Calls.mono (HCm0.out _ HC4.out _ _ HA4.out) ?_); rintro e w6 ⟨x, rfl, hc6⟩; have HCm6 := hideJ hc6; clear hc6))
        rcases HCm6.out.how with ⟨rfl, D7, k7, h7, hk7, hc7, hl7, he7, hf7⟩ | ⟨rfl, hnz, _⟩
        · have HMo : Hid (Mo w w6 (100 * (i + 1))) := ⟨D7, k7, count, by have := HK1.out; omega, h7, hf7 HFz.out, hc7, hl7, HCo.out⟩
          clear h7 hk7 hc7 hl7 he7 hf7
          go_wp2
          refine ⟨⟨i + 1, by have := HLa.out; omega, rfl, .inl ⟨HLa.out, HMo.out⟩⟩, ?_⟩
          simp only [intOf]; have := HJ.out; omega
        · exact absurd HFz.out hnz
    · obtain rfl : i = nl := by omega
      obtain ⟨db, new, old, cnt, m, tl, T, P, q1, c1, q2, c2, M, D, k', rfl, rfl, hF⟩ : Fi w wr (100 * i) u8 u9 := by
        rcases hmode with ⟨e, _⟩ | ⟨_, h⟩
        · omega
        · exact h
      have HGd := hideJ hF.gd
      have HNl := hideJ hF.len
      have HM := hideJ hF.eq
      have HWas := hideJ hF.was
      have HNow := hideJ hF.now
      have HkZ : Hid (k' ≤ 5000) := by show k' ≤ 5000; have := hF.le; have := HN.out; omega
      have hcnt := hF.few
      have hold := hF.gd.ho
      have hst := hF.st
      clear hF hmode
      rcases hst with ⟨hcl, hgood⟩ | hdw
      · have HC0 := hideJ hcl
        have HGo := hideJ hgood
        have HF0 := hideJ (fun U h => fuse_cl w U (r := 100000) (D := D) (i := k') h 0 (by decide))
        clear hcl hgood
        go_upto_region 21 with (first
          | (go_at_call 16; (with_reducible refine Calls.mono (HF0.out _ HC0.out) ?_); rintro e w2 ⟨rfl, ⟨D2, h2, hf2, hs2⟩, hr2⟩; have HC2 := hideJ h2; have HG2 := hideJ (show Good db new old m tl T P (seenOf D2 nmD) (seenOf D2 nmJ) by rw [hs2]; exact HGo.out); have HR2 := hideJ hr2; clear h2 hf2 hs2 hr2)
          | (go_at_call 17; (with_reducible refine Calls.mono (down_cl w _ HC2.out) ?_); rintro e w3 ⟨rfl, rfl⟩)
          | (go_at_call 18; (with_reducible refine Calls.mono (crash_cl w _ HC2.out HG2.out) ?_); rintro e wZ ⟨rfl, ⟨DZ, hZ⟩, hrZ⟩; have HDZ := hideJ hZ; have HRoZ := hideJ (HR2.out.trans hrZ); clear hZ hrZ))
        have HSta : Hid (Sta w wZ 100000 k' (Good db new old m tl T P)) := ⟨DZ, k', Nat.le_refl _, .inr HDZ.out⟩
        have HBk := hideJ (back_walk w wZ (by omega : (20000 : Int) ≤ 100000) HGd.out HkZ.out HSta.out pw nw cw av pc xs cc HWa.out HNw.out)
        go_upto_region 23 with (go_at_call 19; (with_reducible refine Calls.mono HBk.out ?_); rintro e w5 ⟨rfl, ⟨D5, i5, h5, hi5, hc5, hd5⟩, hr5⟩; have HC5 := hideJ h5; have HD5 := hideJ hd5; have HRo5 := hideJ (HRoZ.out.trans hr5); clear h5 hi5 hc5 hd5 hr5)
        rcases HD5.out with hd5 | hd5
        · have HT5 := hideJ (fun U h => tell_cl w U (r := 100000) (D := D5) (k := i5) (old := old) h (by rw [hd5]; exact HGd.out.hdb))
          rw [hd5] at HT5
          clear hd5
          go_upto_region 24 with (go_at_call 13; (with_reducible refine Calls.mono (HT5.out _ HC5.out) ?_); rintro e w6 ⟨⟨q6, c6, rfl, hp6⟩, hg⟩; have HG6 := hideJ hp6; have HB6 := hideJ (HC5.out.grown hg).bel; have HW6 := hideJ ((HRo5.out.1 _ _ _ HWas.out).grown hg); have HN6 := hideJ ((HRo5.out.1 _ _ _ HNow.out).grown hg); clear hg hp6)
          have HSm1 : Hid (∀ U, PgR U q6 old (pgF db) → PgR U q1 old (pgF db) → Calls Try.prog 20 #[.slice q6 old c6, .slice q1 old c1] U fun e w' => e = .returned (.bool true) ∧ U.grownBy w' none) := fun U ha hb => same_j U q6 q1 old old c6 c1 _ _ ha hb (by omega) true ⟨fun _ => ⟨rfl, fun _ _ => rfl⟩, fun _ => rfl⟩
          go_wp2_with (first
            | (go_at_call 20; (with_reducible refine Calls.mono (HSm1.out _ HG6.out HW6.out) ?_); rintro e w7 ⟨rfl, hg⟩; have HB7 := hideJ (HB6.out.trans (grown_below HB6.out.size hg)); have HG7 := hideJ (HG6.out.grown hg); have HN7 := hideJ (HN6.out.grown hg); clear hg)
            | (go_at_call 11; (with_reducible refine Calls.mono (HAw.out _ HB7.out) ?_); rintro e w9 ⟨rfl, hb⟩; have HB9 := hideJ hb; clear hb))
          go_ret
          exact ⟨rfl, HB9.out⟩
        · have HT5 := hideJ (fun U h => tell_cl w U (r := 100000) (D := D5) (k := i5) (old := cnt) h (by rw [hd5]; exact HNl.out))
          rw [hd5] at HT5
          clear hd5
          go_upto_region 24 with (go_at_call 13; (with_reducible refine Calls.mono (HT5.out _ HC5.out) ?_); rintro e w6 ⟨⟨q6, c6, rfl, hp6⟩, hg⟩; have HG6 := hideJ hp6; have HB6 := hideJ (HC5.out.grown hg).bel; have HW6 := hideJ ((HRo5.out.1 _ _ _ HWas.out).grown hg); have HN6 := hideJ ((HRo5.out.1 _ _ _ HNow.out).grown hg); clear hg hp6)
          by_cases heq : cnt = old ∧ ∀ j, j < cnt → pgF new j = pgF db j
          · have HSm1 : Hid (∀ U, PgR U q6 cnt (pgF new) → PgR U q1 old (pgF db) → Calls Try.prog 20 #[.slice q6 cnt c6, .slice q1 old c1] U fun e w' => e = .returned (.bool true) ∧ U.grownBy w' none) := fun U ha hb => same_j U q6 q1 cnt old c6 c1 _ _ ha hb (by omega) true ⟨fun _ => heq, fun _ => rfl⟩
            clear heq
            go_wp2_with (first
              | (go_at_call 20; (with_reducible refine Calls.mono (HSm1.out _ HG6.out HW6.out) ?_); rintro e w7 ⟨rfl, hg⟩; have HB7 := hideJ (HB6.out.trans (grown_below HB6.out.size hg)); have HG7 := hideJ (HG6.out.grown hg); have HN7 := hideJ (HN6.out.grown hg); clear hg)
              | (go_at_call 11; (with_reducible refine Calls.mono (HAw.out _ HB7.out) ?_); rintro e w9 ⟨rfl, hb⟩; have HB9 := hideJ hb; clear hb))
            go_ret
            exact ⟨rfl, HB9.out⟩
          · have HSm1 : Hid (∀ U, PgR U q6 cnt (pgF new) → PgR U q1 old (pgF db) → Calls Try.prog 20 #[.slice q6 cnt c6, .slice q1 old c1] U fun e w' => e = .returned (.bool false) ∧ U.grownBy w' none) := fun U ha hb => same_j U q6 q1 cnt old c6 c1 _ _ ha hb (by omega) false ⟨fun h => absurd h (by decide), fun h => absurd h heq⟩
            have HSm2 : Hid (∀ U, PgR U q6 cnt (pgF new) → PgR U q2 cnt M → Calls Try.prog 20 #[.slice q6 cnt c6, .slice q2 cnt c2] U fun e w' => e = .returned (.bool true) ∧ U.grownBy w' none) := fun U ha hb => same_j U q6 q2 cnt cnt c6 c2 _ _ ha hb (by omega) true ⟨fun _ => ⟨rfl, HM.out⟩, fun _ => rfl⟩
            clear heq
            go_wp2_with (first
              | (go_at_call 20; (with_reducible refine Calls.mono (HSm1.out _ HG6.out HW6.out) ?_); rintro e w7 ⟨rfl, hg⟩; have HB7 := hideJ (HB6.out.trans (grown_below HB6.out.size hg)); have HG7 := hideJ (HG6.out.grown hg); have HN7 := hideJ (HN6.out.grown hg); clear hg)
              | (go_at_call 20; (with_reducible refine Calls.mono (HSm2.out _ HG7.out HN7.out) ?_); rintro e w8 ⟨rfl, hg⟩; have HB8 := hideJ (HB7.out.trans (grown_below HB7.out.size hg)); clear hg)
              | (go_at_call 11; (with_reducible refine Calls.mono (HAw.out _ HB8.out) ?_); rintro e w9 ⟨rfl, hb⟩; have HB9 := hideJ hb; clear hb))
            go_ret
            exact ⟨rfl, HB9.out⟩
      · have HC0 := hideJ hdw
        have HF0 := hideJ (fun U h => fuse_dw w U (r := 100000) (D := D) (i := k') (Q := Good db new old m tl T P) h 0 (by decide))
        clear hdw
        go_upto_region 21 with (first
          | (go_at_call 16; (with_reducible refine Calls.mono (HF0.out _ HC0.out) ?_); rintro e wZ ⟨rfl, ⟨DZ, hZ⟩, hrZ⟩; have HDZ := hideJ hZ; have HRoZ := hideJ hrZ; clear hZ hrZ)
          | (go_at_call 17; (with_reducible refine Calls.mono (down_dw w _ HDZ.out) ?_); rintro e w3 ⟨rfl, rfl⟩))
        have HSta : Hid (Sta w wZ 100000 k' (Good db new old m tl T P)) := ⟨DZ, k', Nat.le_refl _, .inr HDZ.out⟩
        have HBk := hideJ (back_walk w wZ (by omega : (20000 : Int) ≤ 100000) HGd.out HkZ.out HSta.out pw nw cw av pc xs cc HWa.out HNw.out)
        go_upto_region 23 with (go_at_call 19; (with_reducible refine Calls.mono HBk.out ?_); rintro e w5 ⟨rfl, ⟨D5, i5, h5, hi5, hc5, hd5⟩, hr5⟩; have HC5 := hideJ h5; have HD5 := hideJ hd5; have HRo5 := hideJ (HRoZ.out.trans hr5); clear h5 hi5 hc5 hd5 hr5)
        rcases HD5.out with hd5 | hd5
        · have HT5 := hideJ (fun U h => tell_cl w U (r := 100000) (D := D5) (k := i5) (old := old) h (by rw [hd5]; exact HGd.out.hdb))
          rw [hd5] at HT5
          clear hd5
          go_upto_region 24 with (go_at_call 13; (with_reducible refine Calls.mono (HT5.out _ HC5.out) ?_); rintro e w6 ⟨⟨q6, c6, rfl, hp6⟩, hg⟩; have HG6 := hideJ hp6; have HB6 := hideJ (HC5.out.grown hg).bel; have HW6 := hideJ ((HRo5.out.1 _ _ _ HWas.out).grown hg); have HN6 := hideJ ((HRo5.out.1 _ _ _ HNow.out).grown hg); clear hg hp6)
          have HSm1 : Hid (∀ U, PgR U q6 old (pgF db) → PgR U q1 old (pgF db) → Calls Try.prog 20 #[.slice q6 old c6, .slice q1 old c1] U fun e w' => e = .returned (.bool true) ∧ U.grownBy w' none) := fun U ha hb => same_j U q6 q1 old old c6 c1 _ _ ha hb (by omega) true ⟨fun _ => ⟨rfl, fun _ _ => rfl⟩, fun _ => rfl⟩
          go_wp2_with (first
            | (go_at_call 20; (with_reducible refine Calls.mono (HSm1.out _ HG6.out HW6.out) ?_); rintro e w7 ⟨rfl, hg⟩; have HB7 := hideJ (HB6.out.trans (grown_below HB6.out.size hg)); have HG7 := hideJ (HG6.out.grown hg); have HN7 := hideJ (HN6.out.grown hg); clear hg)
            | (go_at_call 11; (with_reducible refine Calls.mono (HAw.out _ HB7.out) ?_); rintro e w9 ⟨rfl, hb⟩; have HB9 := hideJ hb; clear hb))
          go_ret
          exact ⟨rfl, HB9.out⟩
        · have HT5 := hideJ (fun U h => tell_cl w U (r := 100000) (D := D5) (k := i5) (old := cnt) h (by rw [hd5]; exact HNl.out))
          rw [hd5] at HT5
          clear hd5
          go_upto_region 24 with (go_at_call 13; (with_reducible refine Calls.mono (HT5.out _ HC5.out) ?_); rintro e w6 ⟨⟨q6, c6, rfl, hp6⟩, hg⟩; have HG6 := hideJ hp6; have HB6 := hideJ (HC5.out.grown hg).bel; have HW6 := hideJ ((HRo5.out.1 _ _ _ HWas.out).grown hg); have HN6 := hideJ ((HRo5.out.1 _ _ _ HNow.out).grown hg); clear hg hp6)
          by_cases heq : cnt = old ∧ ∀ j, j < cnt → pgF new j = pgF db j
          · have HSm1 : Hid (∀ U, PgR U q6 cnt (pgF new) → PgR U q1 old (pgF db) → Calls Try.prog 20 #[.slice q6 cnt c6, .slice q1 old c1] U fun e w' => e = .returned (.bool true) ∧ U.grownBy w' none) := fun U ha hb => same_j U q6 q1 cnt old c6 c1 _ _ ha hb (by omega) true ⟨fun _ => heq, fun _ => rfl⟩
            clear heq
            go_wp2_with (first
              | (go_at_call 20; (with_reducible refine Calls.mono (HSm1.out _ HG6.out HW6.out) ?_); rintro e w7 ⟨rfl, hg⟩; have HB7 := hideJ (HB6.out.trans (grown_below HB6.out.size hg)); have HG7 := hideJ (HG6.out.grown hg); have HN7 := hideJ (HN6.out.grown hg); clear hg)
              | (go_at_call 11; (with_reducible refine Calls.mono (HAw.out _ HB7.out) ?_); rintro e w9 ⟨rfl, hb⟩; have HB9 := hideJ hb; clear hb))
            go_ret
            exact ⟨rfl, HB9.out⟩
          · have HSm1 : Hid (∀ U, PgR U q6 cnt (pgF new) → PgR U q1 old (pgF db) → Calls Try.prog 20 #[.slice q6 cnt c6, .slice q1 old c1] U fun e w' => e = .returned (.bool false) ∧ U.grownBy w' none) := fun U ha hb => same_j U q6 q1 cnt old c6 c1 _ _ ha hb (by omega) false ⟨fun h => absurd h (by decide), fun h => absurd h heq⟩
            have HSm2 : Hid (∀ U, PgR U q6 cnt (pgF new) → PgR U q2 cnt M → Calls Try.prog 20 #[.slice q6 cnt c6, .slice q2 cnt c2] U fun e w' => e = .returned (.bool true) ∧ U.grownBy w' none) := fun U ha hb => same_j U q6 q2 cnt cnt c6 c2 _ _ ha hb (by omega) true ⟨fun _ => ⟨rfl, HM.out⟩, fun _ => rfl⟩
            clear heq
            go_wp2_with (first
              | (go_at_call 20; (with_reducible refine Calls.mono (HSm1.out _ HG6.out HW6.out) ?_); rintro e w7 ⟨rfl, hg⟩; have HB7 := hideJ (HB6.out.trans (grown_below HB6.out.size hg)); have HG7 := hideJ (HG6.out.grown hg); have HN7 := hideJ (HN6.out.grown hg); clear hg)
              | (go_at_call 20; (with_reducible refine Calls.mono (HSm2.out _ HG7.out HN7.out) ?_); rintro e w8 ⟨rfl, hg⟩; have HB8 := hideJ (HB7.out.trans (grown_below HB7.out.size hg)); clear hg)
              | (go_at_call 11; (with_reducible refine Calls.mono (HAw.out _ HB8.out) ?_); rintro e w9 ⟨rfl, hb⟩; have HB9 := hideJ hb; clear hb))
            go_ret
            exact ⟨rfl, HB9.out⟩
end Go.Proofs.Ytfcgjedanhmpiaa
