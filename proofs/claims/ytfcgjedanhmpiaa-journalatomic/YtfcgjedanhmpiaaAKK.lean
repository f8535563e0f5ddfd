/- Rows of pages: all pages of a database are told; two rows are held against each other. -/
/- The pages of a change. -/
import Derived.Test.YtfcgjedanhmpiaaAKH
namespace Go.Proofs.Ytfcgjedanhmpiaa
open Go.ChangeShapes Go.WideShapes Go.ChangeAt Go.RowKit
open Go.ChangeMaps (setBlock)
set_option linter.unusedVariables false

/-- Rows of pages in memory. -/
def PgR (w : World) (p : Option Addr) (n : Nat) (L : Nat → List UInt8) : Prop := 0 < n → ∃ g, ∃ cur : Array Value, p = some ⟨g, 0, none⟩ ∧ Blk w g cur 24 ∧ ∀ k, k < n → (L k).length = 256 ∧ w.rangeAt g (k * 256) (bcs (L k))
theorem PgR.moved {w w' : World} {base b : Nat} {D D' : DS} {who who' : Nat → Nat} {p : Option Addr} {n : Nat} {L : Nat → List UInt8} (h : PgR w p n L) (R : Rep w base b D who) (hm : RM w D w' base b D' who') : PgR w' p n L := fun h0 => by
  obtain ⟨g, cur, e, hb, hc⟩ := h h0
  have hb' := hm.blk R hb (by unfold OkT; decide)
  exact ⟨g, cur, e, hb', fun k hk => ⟨(hc k hk).1, range_blk (hc k hk).2 hb hb'⟩⟩
theorem PgR.grown {w w' : World} {p : Option Addr} {n : Nat} {L : Nat → List UInt8} (h : PgR w p n L) (hg : w.grownBy w' none) : PgR w' p n L := fun h0 => by
  obtain ⟨g, cur, e, hb, hc⟩ := h h0
  exact ⟨g, cur, e, hb.grown hg, fun k hk => ⟨(hc k hk).1, range_blk (hc k hk).2 hb (hb.grown hg)⟩⟩
def PRo (w : World) (base : Nat) (v : Value) (k : Nat) (L : Nat → List UInt8) : Prop := ∃ q c, v = .slice q k c ∧ w.ownsRow base 24 256 v k (rowsC (fun j => bcs (L j)) k)
theorem PRo.step {w : World} {base g cap k : Nat} {L : Nat → List UInt8} (h : w.ownsRow base 24 256 (.slice (some ⟨g, 0, none⟩) (k + 1) cap) (k + 1) (rowsC (fun j => bcs (L j)) k ++ bcs (L k))) : PRo w base (.slice (some ⟨g, 0, none⟩) (k + 1) cap) (k + 1) L := ⟨_, _, rfl, h⟩
theorem own_PgR {w : World} {base k : Nat} {v : Value} {L : Nat → List UInt8} (hL : ∀ j, j < k → (L j).length = 256) (h : w.ownsRow base 24 256 v k (rowsC (fun j => bcs (L j)) k)) : ∃ p cap, v = .slice p k cap ∧ PgR w p k L := by
  obtain ⟨p, cap, e, hA⟩ := own_rows h (fun j hj => by rw [length_bcs]; exact hL j hj)
  refine ⟨p, cap, e, fun h0 => ?_⟩
  obtain ⟨g, cur, e2, hb, _, _, hr⟩ := hA h0
  exact ⟨g, cur, e2, hb, fun j hj => ⟨hL j hj, hr j hj⟩⟩

set_option maxHeartbeats 4000000 in
set_option maxRecDepth 20000 in
theorem tell_j (w : World) (base b : Nat) (D : DS) (who : Nat → Nat) (R : Rep w base b D who) {r : Int} {i : Nat} (h : JI r D i) (old : Nat) (hold : (seenOf D nmD).length = 256 * old) :
    Calls Try.prog 13 #[.pointer (some ⟨b, 0, none⟩)] w fun e w' => (∃ q c, e = .returned (.slice q old c) ∧ PgR w' q old (fun k => pgL (seenOf D nmD) (k + 1))) ∧ w.grownBy w' none := by
  have hlen := h.len nmD
  have HCt : Hid (∀ V, w.grownBy V none → Calls Try.prog 9 #[.pointer (some ⟨b, 0, none⟩)] V fun e w' => e = .returned (.int .i64 (old : Int)) ∧ V.grownBy w' none) := fun V hV => by
    have := count_j V base b D who (R.keep hV) h
    rw [show (seenOf D nmD).length / 256 = old by omega] at this
    exact this
  have HPg : Hid (∀ k V, k < old → w.grownBy V none → Calls Try.prog 6 #[.pointer (some ⟨b, 0, none⟩), .int .i64 ((k : Int) + 1)] V fun e w' => e = .returned (.tuple #[.agg (bcs (pgL (seenOf D nmD) (k + 1))).toArray, .int .i64 0]) ∧ V.grownBy w' none) := fun k V hk hV => pageF_j V base b D who (R.keep hV) h (k + 1) (by omega) (by omega)
  have HPl : Hid (∀ k, k < old → (pgL (seenOf D nmD) (k + 1)).length = 256) := fun k hk => pgL_length (by omega) (by omega)
  have HO : Hid (old ≤ 30) := by show old ≤ 30; omega
  obtain ⟨LF, hLF⟩ : ∃ LF : Nat → List UInt8, LF = fun k => pgL (seenOf D nmD) (k + 1) := ⟨_, rfl⟩
  have HPg2 : Hid (∀ k V, k < old → w.grownBy V none → Calls Try.prog 6 #[.pointer (some ⟨b, 0, none⟩), .int .i64 ((k : Int) + 1)] V fun e w' => e = .returned (.tuple #[.agg (bcs (LF k)).toArray, .int .i64 0]) ∧ V.grownBy w' none) := by show ∀ k V, _; rw [hLF]; exact HPg.out
  have HPl2 : Hid (∀ k, k < old → (LF k).length = 256) := by show ∀ k, _; rw [hLF]; exact HPl.out
  rw [← hLF]
  clear HPg HPl hLF R h hold hlen
  go_enter Try.func13, Try.ntmps13
  go_wp2
  go_loopw [3, 4] (fun sv iv wr => ∃ k : Nat, k ≤ old ∧ iv = .int .i64 ((k : Int) + 1) ∧ PRo wr w.heap.size sv k LF ∧ w.grownBy wr none) (fun _ iv _ => old + 1 - (intOf iv).toNat)
  case atStart => exact ⟨0, Nat.zero_le _, rfl, ⟨none, 0, rfl, World.ownsRow_nil _ _ _ _⟩, grown_refl _⟩
  case round =>
    obtain ⟨k, hk, rfl, ⟨q, c', rfl, hown⟩, hg⟩ := hrel
    have HG := hideJ hg
    have HOw := hideJ hown
    clear hg hown
    by_cases hlt : k < old
    · have l1 : (k : Int) + 1 ≤ (old : Int) := by omega
      have hw1 : IntKind.i64.wrap ((k : Int) + 1 + 1) = (k : Int) + 1 + 1 := by have := HO.out; rw [IntKind.wrap_i64]; omega
      have HK := hideJ hlt
      have HPk := hideJ (fun V hV => HPg2.out k V hlt hV)
      have HPl := hideJ (HPl2.out k hlt)
      have HI := hideJ (size24 HPl.out)
      have HA := hideJ (bytes_all (LF k))
      have HNn := hideJ new24
      have HSz : Hid ((bcs (LF k)).toArray.size = (bcs z256).toArray.size) := by show _ = _; rw [List.size_toArray, List.size_toArray, length_bcs, length_bcs, HPl.out, z256_length]
      have HPs : Hid ((bcs (LF k)).toArray.size = 256) := by show _ = _; rw [List.size_toArray, length_bcs, HPl.out]
      have HPn : Hid ((bcs (LF k)).length = 1 * 256) := by show _ = _; rw [length_bcs, HPl.out]
      have HP1 := hideJ (one_bcs (LF k))
      go_wp2_with (first
        | (go_at_call 9; (with_reducible refine Calls.mono (HCt.out _ HG.out) ?_); rintro e w1 ⟨rfl, hg⟩; have HG1 := hideJ (grown_trans' HG.out hg); have HO1 := hideJ (own_grown HOw.out hg); clear hg)
        | (go_at_call 6; (with_reducible refine Calls.mono (HPk.out _ HG1.out) ?_); rintro e w2 ⟨rfl, hg⟩; have HG2 := hideJ (grown_trans' HG1.out hg); have HO2 := hideJ (own_grown HO1.out hg); clear hg)
        | ((with_reducible refine at24S ?_); refine wp_storeB (c := (bcs (LF k)).toArray) HI.out HSz.out HA.out (HNn.out _) _ _ (by rfl) (by rfl) (by rfl) (by rfl) ?_; intro W5 hb5 ho5; have HB5 := hideJ hb5; have HG5' := hideJ (grown_only (World.grownBy_alloc w2 _ none) ho5 (Nat.le_refl _)); have HG5 := hideJ (grown_trans' HG2.out HG5'.out); have HO5 := hideJ (own_grown HO2.out HG5'.out); clear hb5 ho5)
        | ((with_reducible refine at24L ?_); refine wp_loadB HI.out u24 HB5.out _ (by rfl) (by rfl) (by rfl) ?_)
        | ((with_reducible refine atBs39 ?_); refine wp_bs1 (X := (bcs (LF k)).toArray) Try.underlying39 infoE24 (by omega) (by omega) HPs.out _ (by rfl) (by rfl) (by rfl) ?_)
        | ((with_reducible refine atApp39 ?_); refine wp_appE (m := 1) Try.underlying39 infoE24 (by omega) (by omega) (bcs (LF k)) HPn.out (by omega) HP1.out HO5.out (by have := HO.out; have := HK.out; omega) HG5.out.size _ _ (by rfl) (by rfl) (by rfl) (by rfl) ?_; intro g6 cap6 w6 hown6 hap6; have HO6 := hideJ hown6; have HG6 := hideJ (hap6.grown w (Nat.le_refl _) HG5.out); clear hown6 hap6))
      refine ⟨⟨k + 1, HK.out, rfl, PRo.step HO6.out, HG6.out⟩, ?_⟩
      simp only [intOf]; have := HK.out; omega
    · obtain rfl : k = old := by omega
      have l1 : ¬ (k : Int) + 1 ≤ (k : Int) := by omega
      go_wp2_with (go_at_call 9; (with_reducible refine Calls.mono (HCt.out _ HG.out) ?_); rintro e w1 ⟨rfl, hg⟩; have HG1 := hideJ (grown_trans' HG.out hg); have HO1 := hideJ (own_grown HOw.out hg); clear hg)
      go_ret
      obtain ⟨q5, c5, e5, hA⟩ := own_PgR HPl2.out HO1.out
      cases e5
      exact ⟨⟨q, c', rfl, hA⟩, HG1.out⟩
theorem neq24 (V : World) (l l' : List UInt8) (h : l.length = 256) (h' : l'.length = 256) : (binOp .neq 24 (.agg (bcs l).toArray) (.agg (bcs l').toArray)).run Try.prog V = .ok (.bool (!(l == l'))) V := by
  have h := run_eql_bytes (P := Try.prog) (w := V) 24 5 256 Try.underlying24 Try.underlying5 (fun w => by kernel_rfl) l l' h h'
  have h2 : (binOp .eql 24 (.agg (bcs l).toArray) (.agg (bcs l').toArray)).run Try.prog V = .ok (.bool (l == l')) V := h
  simp only [binOp, Sem.run_bind] at h2 ⊢
  cases hq : (Op.equal 24 (.agg (bcs l).toArray) (.agg (bcs l').toArray)).run Try.prog V with
  | ok b W =>
    rw [hq] at h2
    simp [Result.andThen] at h2
    obtain ⟨rfl, rfl⟩ := h2
    rfl
  | halt a b => rw [hq] at h2; simp [Result.andThen] at h2

set_option maxHeartbeats 4000000 in
set_option maxRecDepth 20000 in
theorem same_j (w : World) (p q : Option Addr) (n m c c' : Nat) (L M : Nat → List UInt8) (hp : PgR w p n L) (hq : PgR w q m M) (hn : n ≤ 1000) (x : Bool) (hx : x = true ↔ n = m ∧ ∀ k, k < n → L k = M k) :
    Calls Try.prog 20 #[.slice p n c, .slice q m c'] w fun e w' => e = .returned (.bool x) ∧ w.grownBy w' none := by
  have HX := hideJ hx
  by_cases e : n = m
  · subst e
    have HP := hideJ hp
    have HQ := hideJ hq
    have HN := hideJ hn
    clear hp hq hx hn
    go_enter Try.func20, Try.ntmps20
    go_wp2
    go_loopw [5] (fun iv wr => ∃ k : Nat, k ≤ n ∧ iv = .int .i64 (k : Int) ∧ w.grownBy wr none ∧ ∀ j, j < k → L j = M j) (fun iv _ => n - (intOf iv).toNat)
    case atStart => exact ⟨0, Nat.zero_le _, rfl, grown_refl _, fun j hj => by omega⟩
    case round =>
      obtain ⟨k, hk, rfl, hg, hj⟩ := hrel
      have HG := hideJ hg
      have HJ := hideJ hj
      clear hg hj
      by_cases hlt : k < n
      · obtain ⟨g1, cur1, rfl, hb1, hc1⟩ := (HP.out.grown HG.out) (by omega)
        obtain ⟨g2, cur2, rfl, hb2, hc2⟩ := (HQ.out.grown HG.out) (by omega)
        have HR1 := hideJ (hc1 k hlt)
        have HR2 := hideJ (hc2 k hlt)
        have l1 : (k : Int) < (n : Int) := by omega
        have l0 : (0 : Int) ≤ (k : Int) := by omega
        have hw1 : IntKind.i64.wrap ((k : Int) + 1) = (k : Int) + 1 := by have := HN.out; rw [IntKind.wrap_i64]; omega
        have HK := hideJ hlt
        have HNq := hideJ (fun V => neq24 V (L k) (M k) HR1.out.1 HR2.out.1)
        clear hb1 hc1 hb2 hc2
        go_upto_region 6 with fail
        have HS0 : Hid (wr.drew.rangeAt g1 (k * 256) (bcs (L k)) ∧ wr.drew.rangeAt g2 (k * 256) (bcs (M k))) := ⟨HR1.out.2, HR2.out.2⟩
        have HU := hideJ Try.underlying24
        have HSz : Hid ((Try.prog.info? 24).map (·.size) = some (bcs (L k)).length ∧ (Try.prog.info? 24).map (·.size) = some (bcs (M k)).length) := ⟨by rw [length_bcs, HR1.out.1]; exact info24, by rw [length_bcs, HR2.out.1]; exact info24⟩
        obtain ⟨y, hy⟩ : ∃ y, y = !(L k == M k) := ⟨_, rfl⟩
        have HY : Hid (y = false ↔ L k = M k) := by show _ ↔ _; rw [hy]; simp
        rw [← hy] at HNq
        have hnq := HNq.out
        clear hy HR1 HR2 HNq
        generalize bcs (L k) = C1 at HS0 HSz hnq
        generalize bcs (M k) = C2 at HS0 HSz hnq
        refine wp_region_held_drew (S := fun V => V.rangeAt g1 (k * 256) C1 ∧ V.rangeAt g2 (k * 256) C2) (by kernel_rfl) (HS0.out) (fun hHeld => ?_)
        refine wpAnyH_take (i := 0) (v := .slice (some ⟨g1, 0, none⟩) n c) rfl (by kernel_rfl) (by kernel_rfl) (by kernel_rfl) (fun _ _ _ h => h) (Or.inl ⟨by rfl, fun V hV => by go_simp⟩) hHeld ?_
        try simp only [Act.put, List.getElem_toArray, List.getElem_cons_zero, List.setIfInBounds_toArray, List.set_cons_zero, List.set_cons_succ]
        refine wpAnyH_take (i := 1) (v := .int .i64 (k : Int)) rfl (by kernel_rfl) (by kernel_rfl) (by kernel_rfl) (fun _ _ _ h => h) (Or.inl ⟨by rfl, fun V hV => by go_simp⟩) hHeld ?_
        try simp only [Act.put, List.getElem_toArray, List.getElem_cons_succ, List.getElem_cons_zero, List.setIfInBounds_toArray, List.set_cons_zero, List.set_cons_succ]
        refine wpAnyH_take (i := 2) (v := .pointer (some ⟨g1, k * 256, none⟩)) rfl (by kernel_rfl) (by kernel_rfl) (by kernel_rfl) (fun _ _ _ h => h) (Or.inl ⟨by rfl, fun V hV => by go_simp⟩) hHeld ?_
        try simp only [Act.put, List.getElem_toArray, List.getElem_cons_succ, List.getElem_cons_zero, List.setIfInBounds_toArray, List.set_cons_zero, List.set_cons_succ]
        refine wpAnyH_take (i := 3) (v := .agg C1.toArray) rfl (by kernel_rfl) (by kernel_rfl) (by kernel_rfl) (fun _ _ _ h => h) (yieldsIf_load_mid (by rfl) _ _ rfl _ _ rfl _ _ (fun V hV => hV.1) HU.out rfl HSz.out.1) hHeld ?_
        try simp only [Act.put, List.getElem_toArray, List.getElem_cons_succ, List.getElem_cons_zero, List.setIfInBounds_toArray, List.set_cons_zero, List.set_cons_succ]
        refine wpAnyH_take (i := 4) (v := .slice (some ⟨g2, 0, none⟩) n c') rfl (by kernel_rfl) (by kernel_rfl) (by kernel_rfl) (fun _ _ _ h => h) (Or.inl ⟨by rfl, fun V hV => by go_simp⟩) hHeld ?_
        try simp only [Act.put, List.getElem_toArray, List.getElem_cons_succ, List.getElem_cons_zero, List.setIfInBounds_toArray, List.set_cons_zero, List.set_cons_succ]
        refine wpAnyH_take (i := 5) (v := .int .i64 (k : Int)) rfl (by kernel_rfl) (by kernel_rfl) (by kernel_rfl) (fun _ _ _ h => h) (Or.inl ⟨by rfl, fun V hV => by go_simp⟩) hHeld ?_
        try simp only [Act.put, List.getElem_toArray, List.getElem_cons_succ, List.getElem_cons_zero, List.setIfInBounds_toArray, List.set_cons_zero, List.set_cons_succ]
        refine wpAnyH_take (i := 6) (v := .pointer (some ⟨g2, k * 256, none⟩)) rfl (by kernel_rfl) (by kernel_rfl) (by kernel_rfl) (fun _ _ _ h => h) (Or.inl ⟨by rfl, fun V hV => by go_simp⟩) hHeld ?_
        try simp only [Act.put, List.getElem_toArray, List.getElem_cons_succ, List.getElem_cons_zero, List.setIfInBounds_toArray, List.set_cons_zero, List.set_cons_succ]
        refine wpAnyH_take (i := 7) (v := .agg C2.toArray) rfl (by kernel_rfl) (by kernel_rfl) (by kernel_rfl) (fun _ _ _ h => h) (yieldsIf_load_mid (by rfl) _ _ rfl _ _ rfl _ _ (fun V hV => hV.2) HU.out rfl HSz.out.2) hHeld ?_
        try simp only [Act.put, List.getElem_toArray, List.getElem_cons_succ, List.getElem_cons_zero, List.setIfInBounds_toArray, List.set_cons_zero, List.set_cons_succ]
        refine wpAnyH_take (i := 8) (v := .bool y) rfl (by kernel_rfl) (by kernel_rfl) (by kernel_rfl) (fun _ _ _ h => h) (Or.inl ⟨by rfl, fun V hV => by go_simp⟩) hHeld ?_
        try simp only [Act.put, List.getElem_toArray, List.getElem_cons_succ, List.getElem_cons_zero, List.setIfInBounds_toArray, List.set_cons_zero, List.set_cons_succ]
        refine wpAnyH_done (by kernel_rfl) ?_ _
        cases y with
        | false =>
          have HLk := hideJ (HY.out.1 rfl)
          go_wp2
          refine ⟨⟨k + 1, HK.out, rfl, grown_trans' HG.out (World.grownBy_drew wr), fun j hj => ?_⟩, ?_⟩
          · by_cases e : j = k
            · subst e; exact HLk.out
            · exact HJ.out j (by omega)
          · simp only [intOf]; have := HK.out; omega
        | true =>
          have HXf : Hid (x = false) := by
            show x = false
            cases hxx : x with
            | false => rfl
            | true => exact absurd (HY.out.2 ((HX.out.1 hxx).2 k HK.out)) (by decide)
          go_wp2
          go_ret
          exact ⟨by rw [HXf.out]; rfl, grown_trans' HG.out (World.grownBy_drew wr)⟩
      · obtain rfl : k = n := by omega
        have HXt : Hid (x = true) := HX.out.2 ⟨trivial, HJ.out⟩
        go_wp2
        go_ret
        exact ⟨by rw [HXt.out]; rfl, HG.out⟩
  · have HXf : Hid (x = false) := by
      show x = false
      cases hxx : x with
      | false => rfl
      | true => exact absurd (hx.1 hxx).1 e
    have e1 : ¬ (n : Int) = (m : Int) := by omega
    have e2 : ((n : Int) == (m : Int)) = false := by simp; omega
    clear hx hp hq
    go_enter Try.func20, Try.ntmps20
    go_wp2
    go_ret
    exact ⟨by rw [HXf.out]; rfl, grown_refl _⟩
end Go.Proofs.Ytfcgjedanhmpiaa

namespace Go.Proofs.Ytfcgjedanhmpiaa
open Go.ChangeShapes Go.WideShapes Go.ChangeAt Go.RowKit
open Go.ChangeMaps (setBlock)
set_option linter.unusedVariables false

/-- Which pages a change tells: those with a byte, and all new ones. -/
def selL (old nb : Nat) (B : Nat → UInt8) (i : Nat) : List Nat := (List.range' 1 i).filter (fun n => decide ((n ≤ nb ∧ B (n - 1) ≠ 0) ∨ old < n))
def byt (nb : Nat) (B : Nat → UInt8) (n : Nat) : UInt8 := if n ≤ nb ∧ B (n - 1) ≠ 0 then B (n - 1) else 255
theorem selL_yes {old nb : Nat} {B : Nat → UInt8} {i : Nat} (h : (i + 1 ≤ nb ∧ B i ≠ 0) ∨ old < i + 1) : selL old nb B (i + 1) = selL old nb B i ++ [i + 1] := by
  unfold selL
  rw [List.range'_1_concat, List.filter_append, Nat.add_comm 1 i]
  congr 1
  rw [List.filter_cons, if_pos (by simpa using h)]
  rfl
theorem selL_no {old nb : Nat} {B : Nat → UInt8} {i : Nat} (h : ¬ ((i + 1 ≤ nb ∧ B i ≠ 0) ∨ old < i + 1)) : selL old nb B (i + 1) = selL old nb B i := by
  unfold selL
  rw [List.range'_1_concat, List.filter_append, Nat.add_comm 1 i, List.filter_cons, if_neg (by simpa using h)]
  simp
theorem selL_len (old nb : Nat) (B : Nat → UInt8) (i : Nat) : (selL old nb B i).length ≤ i := Nat.le_trans (List.length_filter_le _ _) (by simp)
theorem mem_selL {old nb : Nat} {B : Nat → UInt8} {i p : Nat} : p ∈ selL old nb B i ↔ (1 ≤ p ∧ p ≤ i) ∧ ((p ≤ nb ∧ B (p - 1) ≠ 0) ∨ old < p) := by
  unfold selL
  rw [List.mem_filter, List.mem_range'_1, decide_eq_true_eq]
  constructor
  · rintro ⟨h1, h2⟩; exact ⟨by omega, h2⟩
  · rintro ⟨h1, h2⟩; exact ⟨by omega, h2⟩
theorem selL_rise (old nb : Nat) (B : Nat → UInt8) (i : Nat) : Rise i (selL old nb B i).length (fun j => (selL old nb B i).getD j 0) where
  up := fun a c hac hc => by
    have hp : (selL old nb B i).Pairwise (· < ·) := List.Pairwise.filter _ List.pairwise_lt_range'
    show (selL old nb B i).getD a 0 < (selL old nb B i).getD c 0
    rw [getD_at hc, getD_at (by omega)]
    exact (List.pairwise_iff_getElem.1 hp) a c (by omega) hc hac
  low := fun j hj => by
    show 1 ≤ (selL old nb B i).getD j 0 ∧ (selL old nb B i).getD j 0 ≤ i
    rw [getD_at hj]
    exact (mem_selL.1 (List.getElem_mem hj)).1
theorem selL_all {old nb : Nat} {B : Nat → UInt8} {i p : Nat} (h1 : old < p) (h2 : p ≤ i) : ∃ j, j < (selL old nb B i).length ∧ (selL old nb B i).getD j 0 = p := by
  have : p ∈ selL old nb B i := mem_selL.2 ⟨⟨by omega, h2⟩, .inr h1⟩
  obtain ⟨j, hj, e⟩ := List.getElem_of_mem this
  exact ⟨j, hj, by rw [getD_at hj]; exact e⟩
theorem addN_congr {N M : Nat → Int} {old : Int} : ∀ {k : Nat}, (∀ j, j < k → N j = M j) → addN N old k = addN M old k
  | 0, _ => rfl
  | k + 1, h => by
    rw [addN, addN, addN_congr (fun j hj => h j (by omega)), h k (by omega)]
theorem getD_left {l : List Nat} {x k : Nat} (h : k < l.length) : (l ++ [x]).getD k 0 = l.getD k 0 := by
  rw [getD_at h, getD_at (by simp; omega), List.getElem_append_left h]
theorem getD_end (l : List Nat) (x : Nat) : (l ++ [x]).getD l.length 0 = x := by
  rw [getD_at (by simp), List.getElem_append_right (Nat.le_refl _)]
  simp
theorem snoc_ind {P : List Nat → Prop} (h0 : P []) (h1 : ∀ l x, P l → P (l ++ [x])) (l : List Nat) : P l := by
  have : ∀ r : List Nat, P r.reverse := fun r => by
    induction r with
    | nil => exact h0
    | cons x r ih => rw [List.reverse_cons]; exact h1 _ _ ih
  have h := this l.reverse
  rwa [List.reverse_reverse] at h
theorem addN_list (old : Nat) (l : List Nat) : addN (fun j => ((l.getD j 0 : Nat) : Int)) (old : Int) l.length = (l.filter (fun n => decide (old < n))).length := by
  refine snoc_ind (P := fun l => addN (fun j => ((l.getD j 0 : Nat) : Int)) (old : Int) l.length = (l.filter (fun n => decide (old < n))).length) rfl (fun l x ih => ?_) l
  rw [List.length_append, List.length_singleton, addN, addN_congr (M := fun j => ((l.getD j 0 : Nat) : Int)) (fun j hj => by rw [getD_left hj]), ih, getD_end, List.filter_append, List.length_append]
  congr 1
  by_cases c : old < x
  · rw [if_pos (by omega)]; simp [c]
  · rw [if_neg (by omega)]; simp [c]
theorem len_new (old : Nat) : ∀ c : Nat, ((List.range' 1 c).filter (fun n => decide (old < n))).length = c - old
  | 0 => by simp
  | c + 1 => by
    rw [List.range'_1_concat, List.filter_append, List.length_append, len_new old c]
    by_cases h : old < 1 + c
    · simp [h]; omega
    · simp [h]; omega
theorem selL_new (old nb : Nat) (B : Nat → UInt8) (c : Nat) : ((selL old nb B c).filter (fun n => decide (old < n))).length = c - old := by
  unfold selL
  rw [List.filter_filter, ← len_new old c]
  congr 2
  funext n
  by_cases h : old < n
  · simp [h]
  · simp [h]
theorem selL_may {old nb c : Nat} {B : Nat → UInt8} (hc : c ≤ 4096) : MayF (old : Int) (c : Int) (selL old nb B c).length (fun j => (((selL old nb B c).getD j 0 : Nat) : Int)) := by
  have hr := selL_rise old nb B c
  refine ⟨by omega, fun j hj => ⟨?_, by have := (hr.low j hj).2; show (((selL old nb B c).getD j 0 : Nat) : Int) ≤ _; omega⟩, ?_⟩
  · cases j with
    | zero => have := (hr.low 0 hj).1; show (0 : Int) < (((selL old nb B c).getD 0 0 : Nat) : Int); omega
    | succ j => have := hr.up j (j + 1) (by omega) hj; show (((selL old nb B c).getD j 0 : Nat) : Int) < (((selL old nb B c).getD (j + 1) 0 : Nat) : Int); omega
  · rw [addN_list, selL_new]
    omega
theorem rows_flat (C : Nat → List Value) (l : List Nat) : rowsC (fun j => C (l.getD j 0)) l.length = l.flatMap C := by
  refine snoc_ind (P := fun l => rowsC (fun j => C (l.getD j 0)) l.length = l.flatMap C) rfl (fun l x ih => ?_) l
  rw [List.length_append, List.length_singleton, rowsC, rowsC_congr (C' := fun j => C (l.getD j 0)) (fun j hj => by rw [getD_left hj]), ih, getD_end, List.flatMap_append]
  simp
theorem and_small (c : Int) (m : Nat) (hm : m < 1000000) : ∃ n : Nat, n ≤ m ∧ bits .and .i64 c (m : Int) = (n : Int) := by
  refine ⟨(BitVec.ofInt 64 c).toNat &&& m, Nat.and_le_right, ?_⟩
  have hx : (BitVec.ofInt 64 c).toNat &&& m ≤ m := Nat.and_le_right
  show IntKind.i64.wrap ((BitVec.ofInt 64 c &&& BitVec.ofInt 64 (m : Int)).toNat : Int) = _
  rw [BitVec.toNat_and]
  have e : (BitVec.ofInt 64 (m : Int)).toNat = m := by simp; omega
  rw [e, IntKind.wrap_i64]
  omega
/-- Bytes that were handed in. -/
def ByA (w : World) (p : Option Addr) (n : Nat) (B : Nat → UInt8) : Prop := 0 < n → ∃ b o, p = some ⟨b, o, none⟩ ∧ ∀ j, j < n → w.cell? ⟨b, o + j, none⟩ = some (.int .u8 ((B j).toNat : Int))
theorem grown_cell {w w' : World} (hg : w.grownBy w' none) {a : Addr} {v : Value} (h : w.cell? a = some v) : w'.cell? a = some v := by
  have hb : Below w.heap.size w w' := (Only.of_grown hg).below (Nat.le_refl _) (by simp)
  have hl : a.block < w.heap.size := by
    rcases Nat.lt_or_ge a.block w.heap.size with c | c
    · exact c
    · exfalso
      unfold World.cell? at h
      rw [Array.getElem?_eq_none c] at h
      cases h
  rw [hb.cell hl]; exact h
theorem ByA.grown {w w' : World} {p : Option Addr} {n : Nat} {B : Nat → UInt8} (h : ByA w p n B) (hg : w.grownBy w' none) : ByA w' p n B := fun h0 => by
  obtain ⟨b, o, e, hc⟩ := h h0
  exact ⟨b, o, e, fun j hj => grown_cell hg (hc j hj)⟩
def selC (nb : Nat) (B : Nat → UInt8) (n : Nat) : List Value := pcl (n : Int) (fullL (byt nb B n))
def SlO (w : World) (base : Nat) (v : Value) (nb : Nat) (B : Nat → UInt8) (l : List Nat) : Prop := ∃ q c, v = .slice q l.length c ∧ w.ownsRow base 67 257 v l.length (l.flatMap (selC nb B))
theorem SlO.step {w : World} {base g cap sn nb i : Nat} {B : Nat → UInt8} {l : List Nat} (hn : sn = l.length) (h : w.ownsRow base 67 257 (.slice (some ⟨g, 0, none⟩) (sn + 1) cap) (sn + 1) (l.flatMap (selC nb B) ++ pcl ((i : Int) + 1) (fullL (byt nb B (i + 1))))) : SlO w base (.slice (some ⟨g, 0, none⟩) (sn + 1) cap) nb B (l ++ [i + 1]) := by
  subst hn
  refine ⟨some ⟨g, 0, none⟩, cap, by simp, ?_⟩
  rw [List.flatMap_append]
  have e : [i + 1].flatMap (selC nb B) = pcl ((i : Int) + 1) (fullL (byt nb B (i + 1))) := by simp [selC]
  rw [e]
  simpa using h
/-- A change's pages, by their places. -/
def selN (old nb : Nat) (B : Nat → UInt8) (c : Nat) : Nat → Nat := fun j => (selL old nb B c).getD j 0
def selP (old nb : Nat) (B : Nat → UInt8) (c : Nat) : Nat → List UInt8 := fun j => fullL (byt nb B (selN old nb B c j))
theorem SlO.form {w : World} {base nb : Nat} {v : Value} {B : Nat → UInt8} {l : List Nat} (h : SlO w base v nb B l) : ∃ q c, v = .slice q l.length c ∧ PgA w q l.length (fun j => ((l.getD j 0 : Nat) : Int)) (fun j => fullL (byt nb B (l.getD j 0))) := by
  obtain ⟨q, c, rfl, hown⟩ := h
  rw [← rows_flat] at hown
  obtain ⟨q', c', e, hA⟩ := own_PgA (T := fun j => ((l.getD j 0 : Nat) : Int)) (P := fun j => fullL (byt nb B (l.getD j 0))) (fun j hj => fullL_length _) hown
  cases e
  exact ⟨q, c, rfl, hA⟩

set_option maxHeartbeats 8000000 in
set_option maxRecDepth 20000 in
theorem pages_j (w : World) (cv : Int) (old count nb cb : Nat) (hcv : bits .and .i64 cv 15 = (count : Int)) (hcount : count ≤ 15) (hold : old ≤ 15) (pb : Option Addr) (B : Nat → UInt8) (hB : ByA w pb nb B) :
    Calls Try.prog 14 #[.agg #[.int .i64 cv, .slice pb nb cb], .int .i64 (old : Int)] w fun e w' => (∃ q c, e = .returned (.tuple #[.int .i64 (count : Int), .slice q (selL old nb B count).length c]) ∧ PgA w' q (selL old nb B count).length (fun j => (selN old nb B count j : Int)) (selP old nb B count)) ∧ w.grownBy w' none := by
  have hg0 := World.grownBy_alloc w (.cells #[.int .i64 cv, .slice pb nb cb] 45) none
  have hb0 : Blk (w.alloc (.cells #[.int .i64 cv, .slice pb nb cb] 45)) w.heap.size #[.int .i64 cv, .slice pb nb cb] 45 := alloc_new _ _
  have HB := hideJ hB
  have HX := hideJ hb0
  have HG0 := hideJ hg0
  have HC := hideJ hcount
  clear hB hg0 hb0 hcount
  go_enter Try.func14, Try.ntmps14
  go_wp2
  go_loopw [7, 8] (fun sv iv wr => ∃ i : Nat, i ≤ count ∧ iv = .int .i64 ((i : Int) + 1) ∧ SlO wr (w.alloc (.cells #[.int .i64 cv, .slice pb nb cb] 45)).heap.size sv nb B (selL old nb B i) ∧ (w.alloc (.cells #[.int .i64 cv, .slice pb nb cb] 45)).grownBy wr none) (fun _ iv _ => count + 1 - (intOf iv).toNat)
  case atStart => exact ⟨0, Nat.zero_le _, rfl, ⟨none, 0, rfl, World.ownsRow_nil _ _ _ _⟩, grown_refl _⟩
  case round =>
    obtain ⟨i, hi, rfl, ⟨q, c', rfl, hown⟩, hg⟩ := hrel
    have HG := hideJ hg
    have HOw := hideJ hown
    have hbx := Blk.grown HX.out hg
    have cx0 := (hbx.cell 0).trans (show _ = some (Value.int .i64 cv) from rfl)
    have cx1 := (hbx.cell 1).trans (show _ = some (Value.slice pb nb cb) from rfl)
    clear hg hown hbx
    by_cases hlt : i < count
    · have l1 : (i : Int) + 1 ≤ (count : Int) := by omega
      have hw1 : IntKind.i64.wrap ((i : Int) + 1 + 1) = (i : Int) + 1 + 1 := by have := HC.out; rw [IntKind.wrap_i64]; omega
      have hwi : IntKind.i64.wrap (i : Int) = (i : Int) := by have := HC.out; rw [IntKind.wrap_i64]; omega
      have l0 : (0 : Int) ≤ (i : Int) := by omega
      have HKc := hideJ hlt
      by_cases hnb : i + 1 ≤ nb
      · have l2 : (i : Int) + 1 ≤ (nb : Int) := by omega
        have l3 : (i : Int) < (nb : Int) := by omega
        obtain ⟨bb, oo, rfl, hcells⟩ := (HB.out.grown (grown_trans' HG0.out HG.out)) (by omega)
        have cB := hcells i (by omega)
        clear hcells
        by_cases hz : B i = 0
        · have z1 : ((B i).toNat : Int) = 0 := by rw [hz]; rfl
          rw [z1] at cB
          by_cases ho : old < i + 1
          · have l4 : (old : Int) < (i : Int) + 1 := by omega
            have HS := hideJ (selL_yes (old := old) (nb := nb) (B := B) (i := i) (.inr ho))
            have HBy : Hid (byt nb B (i + 1) = 255) := if_neg (fun h => h.2 hz)
            obtain ⟨BY, hBY⟩ : ∃ BY : UInt8, BY = 255 := ⟨_, rfl⟩
            have HFl : Hid (∀ V, Calls Try.prog 30 #[.int .u8 255] V fun e w' => e = .returned (.agg (bcs (fullL BY)).toArray) ∧ V.grownBy w' none) := fun V => by rw [hBY]; exact full_j V 255
            have HPs : Hid ((pcl ((i : Int) + 1) (fullL BY)).toArray.size = 257) := by show _ = _; rw [List.size_toArray, pcl_length _ (fullL_length _)]
            have HPn : Hid ((pcl ((i : Int) + 1) (fullL BY)).length = 1 * 257) := by show _ = _; rw [pcl_length _ (fullL_length _)]
            have HP1 := hideJ (pcl_one ((i : Int) + 1) (fullL BY))
            rw [← hBY] at HBy
            have HSl := hideJ (selL_len old nb B i)
            clear hBY
            generalize selL old nb B i = SL at HOw HS HSl
            generalize hsn : SL.length = sn at HOw HSl
            have HSn := hideJ hsn.symm
            clear hsn
            go_wp2_with (first
              | (go_at_call 30; (with_reducible refine Calls.mono (HFl.out _) ?_); rintro e w1 ⟨rfl, hg⟩; have HG1 := hideJ (grown_trans' HG.out hg); have HO1 := hideJ (own_grown HOw.out hg); clear hg)
              | ((with_reducible refine atB67 ?_); refine wp_b67g (p := fullL BY) (n := (i : Int) + 1) (fullL_length _) _ _ (by rfl) (by rfl) (by rfl) (by rfl) ?_)
              | ((with_reducible refine atBs22 ?_); refine wp_bs1 (X := (pcl ((i : Int) + 1) (fullL BY)).toArray) Try.underlying22 infoE67 (by omega) (by omega) HPs.out _ (by rfl) (by rfl) (by rfl) ?_)
              | ((with_reducible refine atApp22 ?_); refine wp_appE (m := 1) Try.underlying22 infoE67 (by omega) (by omega) (pcl ((i : Int) + 1) (fullL BY)) HPn.out (by omega) HP1.out HO1.out (by have := HSl.out; have := HKc.out; have := HC.out; omega) HG1.out.size _ _ (by rfl) (by rfl) (by rfl) (by rfl) ?_; intro g6 cap6 w6 hown6 hap6; have HO6 := hideJ hown6; have HG6 := hideJ (hap6.grown (w.alloc (.cells #[.int .i64 cv, .slice _ nb cb] 45)) (Nat.le_refl _) HG1.out); clear hown6 hap6))
            refine ⟨⟨i + 1, HKc.out, by simp, ?_, HG6.out⟩, ?_⟩
            · rw [HS.out]
              refine SlO.step HSn.out ?_
              rw [HBy.out]
              exact HO6.out
            · simp only [intOf]; have := HKc.out; omega
          · have l4 : ¬ (old : Int) < (i : Int) + 1 := by omega
            have HS := hideJ (selL_no (old := old) (nb := nb) (B := B) (i := i) (fun h => by rcases h with h | h; exact h.2 hz; exact ho h))
            skip
            generalize selL old nb B i = SL at HOw HS
            generalize hsn : SL.length = sn at HOw
            have HSn := hideJ hsn.symm
            clear hsn
            go_wp2
            refine ⟨⟨i + 1, HKc.out, by simp, ?_, HG.out⟩, ?_⟩
            · rw [HS.out]
              exact ⟨q, c', by rw [← HSn.out], by rw [← HSn.out]; exact HOw.out⟩
            · simp only [intOf]; have := HKc.out; omega
        · have z1 : ¬ ((B i).toNat : Int) = 0 := fun e => hz (UInt8.toNat_inj.1 (by simpa using Int.ofNat_inj.1 e))
          have z2 : (((B i).toNat : Int) == 0) = false := by simpa using z1
          have HS := hideJ (selL_yes (old := old) (nb := nb) (B := B) (i := i) (.inl ⟨hnb, hz⟩))
          have HBy : Hid (byt nb B (i + 1) = (B i)) := if_pos ⟨hnb, hz⟩
          obtain ⟨BY, hBY⟩ : ∃ BY : UInt8, BY = (B i) := ⟨_, rfl⟩
          have HFl : Hid (∀ V, Calls Try.prog 30 #[.int .u8 ((B i).toNat : Int)] V fun e w' => e = .returned (.agg (bcs (fullL BY)).toArray) ∧ V.grownBy w' none) := fun V => by rw [hBY]; exact full_j V (B i)
          have HPs : Hid ((pcl ((i : Int) + 1) (fullL BY)).toArray.size = 257) := by show _ = _; rw [List.size_toArray, pcl_length _ (fullL_length _)]
          have HPn : Hid ((pcl ((i : Int) + 1) (fullL BY)).length = 1 * 257) := by show _ = _; rw [pcl_length _ (fullL_length _)]
          have HP1 := hideJ (pcl_one ((i : Int) + 1) (fullL BY))
          rw [← hBY] at HBy
          have HSl := hideJ (selL_len old nb B i)
          clear hBY
          generalize selL old nb B i = SL at HOw HS HSl
          generalize hsn : SL.length = sn at HOw HSl
          have HSn := hideJ hsn.symm
          clear hsn
          go_wp2_with (first
            | (go_at_call 30; (with_reducible refine Calls.mono (HFl.out _) ?_); rintro e w1 ⟨rfl, hg⟩; have HG1 := hideJ (grown_trans' HG.out hg); have HO1 := hideJ (own_grown HOw.out hg); clear hg)
            | ((with_reducible refine atB67 ?_); refine wp_b67g (p := fullL BY) (n := (i : Int) + 1) (fullL_length _) _ _ (by rfl) (by rfl) (by rfl) (by rfl) ?_)
            | ((with_reducible refine atBs22 ?_); refine wp_bs1 (X := (pcl ((i : Int) + 1) (fullL BY)).toArray) Try.underlying22 infoE67 (by omega) (by omega) HPs.out _ (by rfl) (by rfl) (by rfl) ?_)
            | ((with_reducible refine atApp22 ?_); refine wp_appE (m := 1) Try.underlying22 infoE67 (by omega) (by omega) (pcl ((i : Int) + 1) (fullL BY)) HPn.out (by omega) HP1.out HO1.out (by have := HSl.out; have := HKc.out; have := HC.out; omega) HG1.out.size _ _ (by rfl) (by rfl) (by rfl) (by rfl) ?_; intro g6 cap6 w6 hown6 hap6; have HO6 := hideJ hown6; have HG6 := hideJ (hap6.grown (w.alloc (.cells #[.int .i64 cv, .slice _ nb cb] 45)) (Nat.le_refl _) HG1.out); clear hown6 hap6))
          refine ⟨⟨i + 1, HKc.out, by simp, ?_, HG6.out⟩, ?_⟩
          · rw [HS.out]
            refine SlO.step HSn.out ?_
            rw [HBy.out]
            exact HO6.out
          · simp only [intOf]; have := HKc.out; omega
      · have l2 : ¬ (i : Int) + 1 ≤ (nb : Int) := by omega
        by_cases ho : old < i + 1
        · have l4 : (old : Int) < (i : Int) + 1 := by omega
          have HS := hideJ (selL_yes (old := old) (nb := nb) (B := B) (i := i) (.inr ho))
          have HBy : Hid (byt nb B (i + 1) = 255) := if_neg (fun h => hnb h.1)
          obtain ⟨BY, hBY⟩ : ∃ BY : UInt8, BY = 255 := ⟨_, rfl⟩
          have HFl : Hid (∀ V, Calls Try.prog 30 #[.int .u8 255] V fun e w' => e = .returned (.agg (bcs (fullL BY)).toArray) ∧ V.grownBy w' none) := fun V => by rw [hBY]; exact full_j V 255
          have HPs : Hid ((pcl ((i : Int) + 1) (fullL BY)).toArray.size = 257) := by show _ = _; rw [List.size_toArray, pcl_length _ (fullL_length _)]
          have HPn : Hid ((pcl ((i : Int) + 1) (fullL BY)).length = 1 * 257) := by show _ = _; rw [pcl_length _ (fullL_length _)]
          have HP1 := hideJ (pcl_one ((i : Int) + 1) (fullL BY))
          rw [← hBY] at HBy
          have HSl := hideJ (selL_len old nb B i)
          clear hBY
          generalize selL old nb B i = SL at HOw HS HSl
          generalize hsn : SL.length = sn at HOw HSl
          have HSn := hideJ hsn.symm
          clear hsn
          go_wp2_with (first
            | (go_at_call 30; (with_reducible refine Calls.mono (HFl.out _) ?_); rintro e w1 ⟨rfl, hg⟩; have HG1 := hideJ (grown_trans' HG.out hg); have HO1 := hideJ (own_grown HOw.out hg); clear hg)
            | ((with_reducible refine atB67 ?_); refine wp_b67g (p := fullL BY) (n := (i : Int) + 1) (fullL_length _) _ _ (by rfl) (by rfl) (by rfl) (by rfl) ?_)
            | ((with_reducible refine atBs22 ?_); refine wp_bs1 (X := (pcl ((i : Int) + 1) (fullL BY)).toArray) Try.underlying22 infoE67 (by omega) (by omega) HPs.out _ (by rfl) (by rfl) (by rfl) ?_)
            | ((with_reducible refine atApp22 ?_); refine wp_appE (m := 1) Try.underlying22 infoE67 (by omega) (by omega) (pcl ((i : Int) + 1) (fullL BY)) HPn.out (by omega) HP1.out HO1.out (by have := HSl.out; have := HKc.out; have := HC.out; omega) HG1.out.size _ _ (by rfl) (by rfl) (by rfl) (by rfl) ?_; intro g6 cap6 w6 hown6 hap6; have HO6 := hideJ hown6; have HG6 := hideJ (hap6.grown (w.alloc (.cells #[.int .i64 cv, .slice _ nb cb] 45)) (Nat.le_refl _) HG1.out); clear hown6 hap6))
          refine ⟨⟨i + 1, HKc.out, by simp, ?_, HG6.out⟩, ?_⟩
          · rw [HS.out]
            refine SlO.step HSn.out ?_
            rw [HBy.out]
            exact HO6.out
          · simp only [intOf]; have := HKc.out; omega
        · have l4 : ¬ (old : Int) < (i : Int) + 1 := by omega
          have HS := hideJ (selL_no (old := old) (nb := nb) (B := B) (i := i) (fun h => by rcases h with h | h; exact hnb h.1; exact ho h))
          skip
          generalize selL old nb B i = SL at HOw HS
          generalize hsn : SL.length = sn at HOw
          have HSn := hideJ hsn.symm
          clear hsn
          go_wp2
          refine ⟨⟨i + 1, HKc.out, by simp, ?_, HG.out⟩, ?_⟩
          · rw [HS.out]
            exact ⟨q, c', by rw [← HSn.out], by rw [← HSn.out]; exact HOw.out⟩
          · simp only [intOf]; have := HKc.out; omega
    · obtain rfl : i = count := by omega
      have l1 : ¬ (i : Int) + 1 ≤ (i : Int) := by omega
      have HF : Hid (PgA wr q (selL old nb B i).length (fun j => (selN old nb B i j : Int)) (selP old nb B i)) := by
        obtain ⟨q5, c5, e5, hA⟩ := SlO.form ⟨q, c', rfl, HOw.out⟩
        cases e5
        exact hA
      have HG2 := hideJ (grown_trans' HG0.out HG.out)
      generalize hsn : (selL old nb B i).length = sn at HOw HF ⊢
      have HSn := hideJ hsn
      clear hsn
      go_wp2
      go_ret2
      exact ⟨⟨q, ⟨c', by rw [HSn.out]; rfl⟩, by rw [HSn.out]; exact HF.out⟩, HG2.out⟩
end Go.Proofs.Ytfcgjedanhmpiaa
