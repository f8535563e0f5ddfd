/- Package spill: steps of the taker; what walks leave alone. -/
/- Package spill: Release as a deferred call, exactly; what leaves walk. -/
import Derived.Test.YthgclfhfipfknaaGreatPPH
import Derived.Test.YthgclfhfipfknaaGreatPNE
namespace Go.Proofs.YthgclfhfipfknaaGreat
variable {sv : Value}
open Go.ChangeShapes Go.WideShapes Go.ChangeAt Go.RowKit Go.Maps
set_option linter.unusedVariables false

theorem tkAt_shift (n : Nat) (F : List Nat) (j : Nat) : tkAt (n + (j - F.length)) (F.drop j) 0 = tkAt n F j := by
  unfold tkAt
  rw [List.length_drop]
  by_cases h : j < F.length
  · rw [if_pos (by omega), if_pos h]
    simp [List.getD]
  · rw [if_neg (by omega), if_neg h]
    omega
theorem tkAt_bd {n : Nat} {F : List Nat} (hF : ∀ g ∈ F, 2 ≤ g ∧ g ≤ n) (h1 : 1 ≤ n) (k : Nat) : 2 ≤ tkAt n F k ∧ tkAt n F k ≤ n + (k + 1 - F.length) := by
  unfold tkAt
  split
  · rename_i h
    rw [getD_lt h]
    have := hF _ (List.getElem_mem h)
    omega
  · omega
theorem pcS_ba (s : ByteArray) (z k : Nat) : pcS s z k = ⟨((s.data.toList.drop (k * z)).take z).toArray⟩ := by
  rw [← pcS_toL]
theorem Sp.set {sv' : Value} {w w' : World} {t pm n : Nat} {P : Nat → List UInt8} {K : Nat} {F : List Nat} {N : Nat → Nat} (h : Sp sv w t pm n P K F N) (ht : Tr sv' w' t pm n P K true) : Sp sv' w' t pm n P K F N := ⟨⟨ht, h.ld.one, h.ld.fst, h.ld.lk, h.ld.nm⟩, h.ch, h.nd⟩
/-- Pieces lie in pages, each linked to the next one. -/
def nxP (n : Nat) (F : List Nat) (m k : Nat) : Nat := if k < m then tkAt n F k else 0
structure TkS (sv : Value) (t pm n : Nat) (P : Nat → List UInt8) (K : Nat) (F : List Nat) (N : Nat → Nat) (cb : Nat) (L : List ByteArray) (W : World) : Prop where
  ok : ∀ p ∈ L, 0 < p.size ∧ p.size ≤ 240
  sp : ∃ P' K', Sp sv W t pm (n + (L.length - F.length)) P' K' (F.drop L.length) N ∧ K' ≤ K + 3 * L.length ∧ (∀ i, 2 ≤ i → i ≤ n → i ∉ tkL n F L.length → P' i = P i) ∧ ∀ k, k < L.length → P' (tkAt n F k) = chL (L.getD k ⟨#[]⟩) (nxP n F L.length (k + 1))
  tk : ∃ f l q, Blk W cb (tkA t f l q) 95 ∧ (L = [] → f = 0) ∧ (0 < L.length → f = tkAt n F 0 ∧ l = tkAt n F (L.length - 1) ∧ q = L.getD (L.length - 1) ⟨#[]⟩)
/-- The chain that pieces make. -/
theorem cn_of {P : Nat → List UInt8} {n n2 M : Nat} {F : List Nat} {s : ByteArray} (hF : ∀ g ∈ F, 2 ≤ g ∧ g ≤ n) (h1 : 1 ≤ n) (hM : M = pcN s 240) (hn2 : n2 = n + (M - F.length)) (h4 : n2 ≤ 4096)
    (hp : ∀ k, k < M → P (tkAt n F k) = chL (pcS s 240 k) (nxP n F M (k + 1))) : ∀ m k, k + m = M → Cn P n2 (nxP n F M k) (s.data.toList.drop (240 * k)) ((List.range' k m).map (tkAt n F)) := by
  have hl : s.data.toList.length = s.size := bytes_size s
  intro m
  induction m with
  | zero =>
    intro k hk
    have e : ¬ k < M := by omega
    have : ¬ k * 240 < s.size := fun hh => absurd ((pcN_lt s 240 k (by omega)).2 hh) (by omega)
    rw [show nxP n F M k = 0 by unfold nxP; rw [if_neg e], List.drop_of_length_le (by omega)]
    exact .nil
  | succ m ih =>
    intro k hk
    have hk2 : k < M := by omega
    have hks := (pcN_lt s 240 k (by omega)).1 (by omega)
    have hb := tkAt_bd hF h1 k
    have hr := ih (k + 1) (by omega)
    rw [show nxP n F M k = tkAt n F k by unfold nxP; rw [if_pos hk2], List.range'_succ, List.map_cons]
    refine .cons (next := nxP n F M (k + 1)) hb.1 (by omega) (fun e => ?_) ?_ ?_ ?_
    · have := congrArg List.length e
      rw [List.length_drop, hl] at this
      simp at this
      omega
    · rw [hp k hk2, pcS_ba, Nat.mul_comm]
    · have := tkAt_bd hF h1 (k + 1)
      unfold nxP
      split <;> omega
    · rw [List.drop_drop, show 240 * k + 240 = 240 * (k + 1) by omega]
      exact hr
theorem getD_app {L : List ByteArray} {p d : ByteArray} {k : Nat} (h : k < L.length) : (L ++ [p]).getD k d = L.getD k d := by
  simp [List.getD, List.getElem?_append_left h]
theorem getD_last {L : List ByteArray} {p d : ByteArray} : (L ++ [p]).getD L.length d = p := by simp [List.getD]
theorem tk_step (W : World) (cb t pm n : Nat) {P : Nat → List UInt8} {K : Nat} {F : List Nat} {N : Nat → Nat} {L : List ByteArray} (h : TkS sv t pm n P K F N cb L W) (hF : ∀ g ∈ F, 2 ≤ g ∧ g ≤ n) (hnd : F.Nodup) (h1 : 1 ≤ n) (hK : K + 3 * L.length ≤ 90000) (hr : L.length + 1 ≤ F.length + (4096 - n)) (hn4 : n ≤ 4096) (p : ByteArray) (hp0 : 0 < p.size) (hp1 : p.size ≤ 240) :
    Calls Tryz.prog 47 #[.pointer (some ⟨cb, 0, none⟩), .string p] W fun e w' => e = .returned (.int .i64 0) ∧ TkS sv t pm n P K F N cb (L ++ [p]) w' ∧ Only [t, pm, cb] W w' := by
  obtain ⟨hok, ⟨P', K', hsp, hk', ho', hcn⟩, f, l, q, hb, hz, hp⟩ := h
  have hok2 : ∀ x ∈ L ++ [p], 0 < x.size ∧ x.size ≤ 240 := fun x hx => by
    rcases List.mem_append.1 hx with hx | hx
    · exact hok x hx
    · obtain rfl := List.mem_singleton.1 hx; exact ⟨hp0, hp1⟩
  have hLl : (L ++ [p]).length = L.length + 1 := by simp
  by_cases hL : L = []
  · subst hL
    have hf := hz rfl
    subst hf
    rw [List.length_nil, show n + (0 - F.length) = n by omega, List.drop_zero] at hsp
    rw [List.length_nil] at hr hK
    refine (take_first W cb t pm n hsp (by simp at hk'; omega) (fun e => by subst e; simp at hr; omega) l q _ hb hp0 hp1).mono ?_
    rintro e w' ⟨P2, rfl, h2, ⟨h3, h4⟩, h5, h6⟩
    refine ⟨rfl, ⟨hok2, ⟨P2, K' + 2, ?_, by simp at hk' ⊢; omega, fun i hi2 hin hit => ?_, fun k hk => ?_⟩, ⟨_, _, _, h5, fun e => by simp at e, fun _ => ⟨rfl, rfl, rfl⟩⟩⟩, h6⟩
    · rw [hLl, List.length_nil, Nat.zero_add, List.drop_one]; exact h2
    · rw [h3 i hi2 hin (fun e => hit (by simp [tkL, e])), ho' i hi2 hin (by simp [tkL])]
    · obtain rfl : k = 0 := by simp at hk; omega
      rw [h4]
      rfl
  · obtain ⟨i, hi⟩ : ∃ i, L.length = i + 1 := ⟨L.length - 1, by have := List.length_pos_iff.2 hL; omega⟩
    obtain ⟨rfl, rfl, rfl⟩ := hp (by omega)
    rw [hi] at hsp hk' ho' hcn hb hr hK
    rw [Nat.add_sub_cancel] at hb
    have b0 := tkAt_bd hF h1 0
    have bi := tkAt_bd hF h1 i
    have bj := tkAt_bd hF h1 (i + 1)
    have hF2 : ∀ g ∈ F, g ≤ n := fun g h => (hF g h).2
    have hqs := hok (L.getD i ⟨#[]⟩) (by rw [List.getD_eq_getElem?_getD, List.getElem?_eq_getElem (by omega)]; exact List.getElem_mem _)
    have hlen : (F.drop (i + 1)).length = F.length - (i + 1) := List.length_drop
    have hlF : tkAt n F i ∉ F.drop (i + 1) := fun hm => by
      obtain ⟨m, hm1, hm2⟩ := List.getElem_of_mem hm
      rw [List.getElem_drop] at hm2
      have hml : i + 1 + m < F.length := by rw [hlen] at hm1; omega
      have e : tkAt n F (i + 1 + m) = tkAt n F i := by
        rw [← hm2]
        unfold tkAt
        rw [if_pos hml, getD_lt hml]
      have := tkAt_inj hnd hF2 e
      omega
    refine (take_next W cb t pm (n + (i + 1 - F.length)) hsp (by omega) (fun e => by have := congrArg List.length e; rw [hlen] at this; simp at this; omega) _ _ _ _ hb (by omega) bi.1 bi.2 hlF hp0 hp1 hqs.1 hqs.2).mono ?_
    rintro e w' ⟨P2, rfl, h2, ⟨h3, h4, h5⟩, h6, h7⟩
    rw [tkAt_shift] at h3 h4 h5 h6
    have en : n + (i + 1 - F.length) + (1 - (F.drop (i + 1)).length) = n + (i + 1 + 1 - F.length) := by rw [hlen]; omega
    rw [en, List.tail_drop] at h2
    refine ⟨rfl, ⟨hok2, ⟨P2, K' + 3, by rw [hLl, hi]; exact h2, by rw [hLl, hi]; omega, fun k hk2 hkn hkt => ?_, fun k hk => ?_⟩, ⟨_, _, _, h6, fun e => by simp at e, fun _ => ⟨rfl, by rw [hLl, hi, Nat.add_sub_cancel], by rw [hLl, Nat.add_sub_cancel, getD_last]⟩⟩⟩, h7⟩
    · rw [hLl, hi, tkL_succ] at hkt
      simp only [List.mem_append, List.mem_singleton, not_or] at hkt
      have hki : k ≠ tkAt n F i := fun e => hkt.1 (by rw [tkL_succ]; simp [e])
      rw [h3 k hk2 (by omega) hkt.2 hki, ho' k hk2 hkn hkt.1]
    · rw [hLl, hi] at hk
      rw [hLl, hi]
      by_cases e1 : k = i + 1
      · subst e1
        rw [h5, ← hi, getD_last]
        unfold nxP
        rw [if_neg (by omega)]
      · rw [getD_app (by omega)]
        by_cases e2 : k = i
        · subst e2
          rw [h4]
          unfold nxP
          rw [if_pos (by omega)]
        · have bk := tkAt_bd hF h1 k
          rw [h3 _ bk.1 (by omega) (fun e => by have := tkAt_inj hnd hF2 e; omega) (fun e => by have := tkAt_inj hnd hF2 e; omega), hcn k (by omega)]
          unfold nxP
          rw [if_pos (by omega), if_pos (by omega)]
/-- What calls at hand leave alone: what lies below B0, and blocks that are neither a transaction's nor of the type k. -/
structure Kb (B0 : Nat) (k : TypeId) (w w' : World) : Prop where
  bel : Below B0 w w'
  kp : ∀ (b : Nat) (c : Array Value) (ty : TypeId), Blk w b c ty → ty ≠ 122 → ty ≠ 117 → ty ≠ k → Blk w' b c ty
theorem Kb.refl (B0 : Nat) (k : TypeId) (w : World) : Kb B0 k w w := ⟨Below.refl _ _, fun _ _ _ h _ _ _ => h⟩
theorem Kb.trans {B0 : Nat} {k : TypeId} {a b c : World} (h : Kb B0 k a b) (g : Kb B0 k b c) : Kb B0 k a c := ⟨h.bel.trans g.bel, fun b c ty hb n1 n2 n3 => g.kp b c ty (h.kp b c ty hb n1 n2 n3) n1 n2 n3⟩
theorem Kb.of_below {B0 : Nat} {k : TypeId} {w w' : World} (h : Below w.heap.size w w') (h0 : B0 ≤ w.heap.size) : Kb B0 k w w' := ⟨h.mono h0, fun b c ty hb _ _ _ => hb.later h⟩
theorem Kb.of_tx {B0 : Nat} {k : TypeId} {w w' : World} {t pm n : Nat} {P : Nat → List UInt8} {K : Nat} {wr : Bool} (ht : Tr sv w t pm n P K wr) (ho : Only [t, pm] w w') (h1 : B0 ≤ t) (h2 : B0 ≤ pm) : Kb B0 k w w' :=
  ⟨ho.below (by have := tr_lt ht; omega) (fun j hj => by simp at hj; omega), fun b c ty hb n1 _ _ => ht.apart ho hb n1⟩
theorem Kb.of_tk {B0 : Nat} {w w' : World} {t pm n cb : Nat} {cs : Array Value} {P : Nat → List UInt8} {K : Nat} {wr : Bool} (ht : Tr sv w t pm n P K wr) (hc : Blk w cb cs 95) (ho : Only [t, pm, cb] w w') (h1 : B0 ≤ t) (h2 : B0 ≤ pm) (h3 : B0 ≤ cb) : Kb B0 95 w w' := by
  refine ⟨ho.below (by have := tr_lt ht; omega) (fun j hj => by simp at hj; omega), fun b c ty hb n1 _ n3 => ?_⟩
  obtain ⟨ct, ht'⟩ := ht.blk
  obtain ⟨es, cl, he⟩ := ht.mp.obj
  have a1 := blk_ne hb ht' n1
  have a2 := blk_map hb he
  have a3 := blk_ne hb hc n3
  exact hb.only ho (by simp; omega)
theorem Kb.of_sv {B0 : Nat} {k : TypeId} {w w' : World} {t pm n base : Nat} {P : Nat → List UInt8} {K : Nat} {wr : Bool} {S : List Sn} (ht : Tr sv w t pm n P K wr) (hs : Sv w base sv S pm) (ho : Only (t :: sv.ownBlock.toList) w w') (h1 : B0 ≤ t) (h2 : B0 ≤ base) : Kb B0 k w w' :=
  ⟨svw_below hs ho (Below.refl B0 w) h1 h2 (by have := tr_lt ht; omega), fun b c ty hb n1 n2 _ => svw_keep ht hs ho hb n1 n2⟩
theorem Kb.ownF {X Y : World} {B0 B : Nat} {k : TypeId} {w : World} {row : Option Nat} (h : Kb B0 k w X) (hg : X.grownBy Y row) (hr : ∀ r, row = some r → B ≤ r ∧ ∃ o : Obj, X.heap[r]? = some o ∧ o.isCells = false) (hB : B0 ≤ B) (h0 : B0 ≤ X.heap.size) : Kb B0 k w Y := by
  refine ⟨h.bel.trans ⟨hg.os, hg.tape, hg.output, hg.size, fun i hi => ?_⟩, fun b c ty hb n1 n2 n3 => ?_⟩
  · exact hg.block i (Nat.lt_of_lt_of_le hi h0) (fun e => by have := (hr i e.symm).1; omega)
  · have hb' := h.kp b c ty hb n1 n2 n3
    exact (hg.block b hb'.lt (fun e => by
      obtain ⟨_, o, ho', hc⟩ := hr b e.symm
      rw [show X.heap[b]? = _ from hb'] at ho'; cases ho'; cases hc)).trans hb'
theorem TkS.ownF {X Y : World} {t pm n cb B : Nat} {P : Nat → List UInt8} {K : Nat} {F : List Nat} {N : Nat → Nat} {L : List ByteArray} {row : Option Nat} (h : TkS sv t pm n P K F N cb L X) (hg : X.grownBy Y row) (hr : ∀ r, row = some r → B ≤ r ∧ ∃ o : Obj, X.heap[r]? = some o ∧ o.isCells = false) (ht : t < B) (hp : pm < B) : TkS sv t pm n P K F N cb L Y := by
  obtain ⟨h0, ⟨P', K', h1, h2, h3⟩, f, l, q, hb, h4⟩ := h
  refine ⟨h0, ⟨P', K', h1.set (h1.ld.tr.ownF hg hr ht hp), h2, h3⟩, f, l, q, (hg.block cb hb.lt (fun e => ?_)).trans hb, h4⟩
  obtain ⟨_, o, ho', hc⟩ := hr cb e.symm
  rw [show X.heap[cb]? = _ from hb] at ho'; cases ho'; cases hc
theorem TkS.set {sv' : Value} {W W' : World} {t pm n cb : Nat} {P : Nat → List UInt8} {K : Nat} {F : List Nat} {N : Nat → Nat} {L : List ByteArray} (h : TkS sv t pm n P K F N cb L W) (hT : ∀ n' P' K', Tr sv W t pm n' P' K' true → Tr sv' W' t pm n' P' K' true) (hb : ∀ c, Blk W cb c 95 → Blk W' cb c 95) : TkS sv' t pm n P K F N cb L W' := by
  obtain ⟨h0, ⟨P', K', h1, h2, h3⟩, f, l, q, hc, h4⟩ := h
  exact ⟨h0, ⟨P', K', h1.set (hT _ _ _ h1.ld.tr), h2, h3⟩, f, l, q, hb _ hc, h4⟩
end Go.Proofs.YthgclfhfipfknaaGreat

namespace Go.Proofs.YthgclfhfipfknaaGreat
variable {sv : Value}
open Go.ChangeShapes Go.WideShapes Go.ChangeAt Go.RowKit Go.Maps Go.Shelf
set_option linter.unusedVariables false

set_option maxRecDepth 20000 in
theorem release_x (N : Nat) (u : FrameMode) (w : World) (t pm n base i : Nat) {P : Nat → List UInt8} {K : Nat} {wr : Bool} {S : List Sn} (h : Tr sv w t pm n P K wr) (hs : Sv w base sv S pm) (h1 : 1 ≤ i) (h2 : i ≤ S.length) (hS : S.length ≤ 2000) :
    CallsDIn Fence.wide N Tryz.prog 110 #[.pointer (some ⟨t, 0, none⟩), .int .i64 (i : Int)] u w fun e u' w' => u' = u ∧ (e = .returned (.int .i64 0) ∧ ∃ sv', FgW w w' t pm n base P K wr sv sv' S (i - 1)) := by
  have HB0 := hide (below_alloc w (.cells #[.pointer (some ⟨t, 0, none⟩)] 24))
  obtain ⟨w1, hw1⟩ : ∃ w1, w1 = w.alloc (.cells #[.pointer (some ⟨t, 0, none⟩)] 24) := ⟨_, rfl⟩
  rw [← hw1] at HB0
  have k1 : Blk w1 w.heap.size #[.pointer (some ⟨t, 0, none⟩)] 24 := by rw [hw1]; exact Blk.new _ _ _
  have hb2 := below_alloc w1 (.cells #[.int .i64 (i : Int)] 3)
  have HB2 := hide (below_trans HB0.out hb2)
  have HD := hide (do_release _ w1.heap.size w.heap.size t pm n base i (h.later HB2.out) (hs.later HB2.out) (k1.later hb2) (Blk.new w1 #[.int .i64 (i : Int)] 3) h1 h2 hS)
  rw [hw1] at HD HB2
  rw [show (w.alloc (.cells #[.pointer (some ⟨t, 0, none⟩)] 24)).heap.size = w.heap.size + 1 by simp] at HD
  clear h hs hb2 k1 hw1
  refine callsDIn_of_wp Tryz.func110 rfl trivial ?_ rfl
  refine wpIn_wide.2 ?_
  simp only [Tryz.ntmps110, List.size_toArray, List.length_cons, List.length_nil, Nat.reduceAdd, Nat.reduceSub, Array.replicate_succ, Array.replicate_zero, List.push_toArray, List.append_toArray, List.nil_append, List.cons_append]
  go_wp2_with (first
    | (go_at_call 56; (with_reducible refine Calls.mono HD.out ?_); rintro e w4 ⟨rfl, sv4, hf⟩; have HR := hide (hf.after HB2.out); clear hf))
  go_ret
  exact ⟨rfl, _, HR.out⟩
/-- What of a transaction stands beside a change of one block of an error's type. -/
theorem Tr.set6 {w : World} {t pm n a6 : Nat} {P : Nat → List UInt8} {K : Nat} {wr : Bool} {c6 : Array Value} (h : Tr sv w t pm n P K wr) (k6 : Blk w a6 c6 35) (v : Value) : Tr sv (w.setCell ⟨a6, 0, none⟩ v) t pm n P K wr :=
  h.onlyX (Only.setCell w ⟨a6, 0, none⟩ v) (fun b hb => by
    have e : b = a6 := by simpa using hb
    subst e
    exact ⟨_, _, k6, by unfold Ot; decide⟩)
theorem Sv.set6 {w : World} {base pm a6 : Nat} {S : List Sn} {c6 : Array Value} (h : Sv w base sv S pm) (k6 : Blk w a6 c6 35) (v : Value) : Sv (w.setCell ⟨a6, 0, none⟩ v) base sv S pm :=
  h.only (Only.setCell w ⟨a6, 0, none⟩ v) (fun g hg hm => by
    have e : g = a6 := by simpa using hm
    subst e
    obtain ⟨_, c', hb⟩ := ownC_blk h.row hg
    exact blk_ne hb k6 (by decide) rfl) (fun s hs hm => by
    have e : s.pm = a6 := by simpa using hm
    obtain ⟨es, cl, he⟩ := (h.each s hs).1.obj
    exact blk_map k6 he e.symm)
/-- What is the same behind walk's end. -/
structure WkE (sv sv' : Value) (W w' : World) (t pm base B0 a6 : Nat) : Prop where
  tr : ∀ n P K, Tr sv W t pm n P K true → Tr sv' w' t pm n P K true
  kp : ∀ (b : Nat) (c : Array Value) (ty : TypeId), Blk W b c ty → ty ≠ 122 → ty ≠ 117 → b ≠ a6 → Blk w' b c ty
  ss : Sv w' base sv' [] pm
  bel : Below B0 W w'
theorem Tr.inj {sv' : Value} {W w' : World} {t pm n0 : Nat} {P0 : Nat → List UInt8} {K0 : Nat} (h0 : Tr sv W t pm n0 P0 K0 true) (h0' : Tr sv' w' t pm n0 P0 K0 true) (hm : w'.heap[pm]? = W.heap[pm]?) {n : Nat} {P : Nat → List UInt8} {K : Nat} (h : Tr sv W t pm n P K true) : Tr sv' w' t pm n P K true := by
  have e : (n : Int) = (n0 : Int) := by
    have := h.c3.symm.trans h0.c3
    simpa using this
  obtain rfl : n = n0 := by omega
  obtain ⟨D, ⟨es, cl, he, q1, q2, q3⟩, q4, q5⟩ := h.mp
  exact ⟨h0'.gr, ⟨D, ⟨es, cl, hm.trans he, q1, q2, q3⟩, q4, q5⟩, h.len, h.few⟩
theorem wk_leaveX {fn : Func} (hres : fn.results = #[.cell 6 35]) {W : World} {B0 t pm n base a6 D : Nat} {P : Nat → List UInt8} {K : Nat} {s0 : Sn} {R : Ending → World → Prop} {tmps : Array Value} (hT : Tr sv W t pm n P K true) (hS : Sv W base sv [s0] pm) (h6 : Blk W a6 #[.int .i64 0] 35) (hD : W.heap[D]? = some (.deferred (some []))) (ht : t < D) (hp : pm < D) (hq : s0.pm < D) (hB : B0 ≤ D) (h1 : B0 ≤ t) (h2 : B0 ≤ base) (h3 : B0 ≤ a6) (htm : tmps.getD 6 undef = .pointer (some ⟨a6, 0, none⟩))
    (hR : ∀ w' sv', WkE sv sv' W w' t pm base B0 a6 → R (.returned (.int .i64 0)) w') :
    LeavesInM Fence.wide 9 Tryz.prog fn tmps R [{ target := .collected D, args := #[] }, { target := .fn (.func 110) #[], args := #[.pointer (some ⟨t, 0, none⟩), .int .i64 1] }] .returning (W.setCell ⟨a6, 0, none⟩ (.int .i64 0)) := by
  have o6 := Only.setCell W ⟨a6, 0, none⟩ (.int .i64 0)
  have hD6 : (W.setCell ⟨a6, 0, none⟩ (.int .i64 0)).heap[D]? = some (.deferred (some [])) := o6.blk hD (fun hm => by
    have e : D = a6 := by simpa using hm
    subst e
    rw [show W.heap[D]? = _ from h6] at hD; cases hD)
  have hT6 := hT.set6 h6 (.int .i64 0)
  have hS6 := hS.set6 h6 (.int .i64 0)
  have k6 : Blk (W.setCell ⟨a6, 0, none⟩ (.int .i64 0)) a6 #[.int .i64 0] 35 := h6.set 0 (.int .i64 0)
  have b6 : Below B0 W (W.setCell ⟨a6, 0, none⟩ (.int .i64 0)) := o6.below (by have := tr_lt hT; omega) (fun j hj => by simp at hj; omega)
  have kp6 : ∀ (b : Nat) (c : Array Value) (ty : TypeId), Blk W b c ty → b ≠ a6 → Blk (W.setCell ⟨a6, 0, none⟩ (.int .i64 0)) b c ty := fun b c ty hb hn => hb.only o6 (by simpa using hn)
  have m6 : (W.setCell ⟨a6, 0, none⟩ (.int .i64 0)).heap[pm]? = W.heap[pm]? := by
    obtain ⟨es, cl, he⟩ := hT.mp.obj
    exact o6.block pm (tr_lt hT).2 (fun hm => blk_map h6 he (by have e : pm = a6 := (by simpa using hm); exact e.symm))
  generalize W.setCell ⟨a6, 0, none⟩ (.int .i64 0) = W6 at *
  have hg : W6.grownBy (W6.putObj D (.deferred none)) (some D) := grownBy_putObj' W6 D (.deferred none)
  have hr : ∀ r, some D = some r → D ≤ r ∧ ∃ o : Obj, W6.heap[r]? = some o ∧ o.isCells = false := fun r e => by cases e; exact ⟨Nat.le_refl _, _, hD6, rfl⟩
  have hTp := hT6.ownF hg hr ht hp
  have hSp := hS6.ownF hg hr (by simpa using hq)
  have kp := put_blk (y := none) k6 hD6
  have bp : Below B0 W6 (W6.putObj D (.deferred none)) := ⟨hg.os, hg.tape, hg.output, hg.size, fun i hi => hg.block i (by have := tr_lt hT6; omega) (fun e => by cases e; omega)⟩
  have kpp : ∀ (b : Nat) (c : Array Value) (ty : TypeId), Blk W6 b c ty → Blk (W6.putObj D (.deferred none)) b c ty := fun b c ty hb => put_blk hb hD6
  have mp : (W6.putObj D (.deferred none)).heap[pm]? = W6.heap[pm]? := hg.block pm (tr_lt hT6).2 (fun e => by cases e; omega)
  refine ⟨by simp, .inl ⟨D, _, rfl, run_takeDeferred hD6, ?_⟩⟩
  generalize W6.putObj D (.deferred none) = V at *
  refine ⟨by simp, .inr ⟨fun h => absurd h (by decide), .func 110, #[], 110, #[.pointer (some ⟨t, 0, none⟩), .int .i64 1], rfl, ?_, fun _ _ => trivial, ?_⟩⟩
  · simp [invoke, go_sem]
  · refine (release_x (9 - 1) .returning V t pm n base 1 hTp hSp (Nat.le_refl _) (by simp) (by simp)).mono ?_
    rintro e u' w' ⟨rfl, rfl, sv', hf⟩
    have hk : Blk w' a6 #[.int .i64 0] 35 := svw_keep hTp hSp hf.on kp (by decide) (by decide)
    have hm : w'.heap[pm]? = V.heap[pm]? := by
      obtain ⟨es, cl, he⟩ := hTp.mp.obj
      obtain ⟨cs, hc⟩ := hTp.blk
      refine hf.on.block pm (tr_lt hTp).2 (fun hm => ?_)
      rcases List.mem_cons.1 hm with e | hm
      · exact blk_map hc he e.symm
      · have e : sv.ownBlock = some pm := by simpa using hm
        obtain ⟨_, c', hb2⟩ := ownC_blk hSp.row e
        exact blk_map hb2 he rfl
    refine ⟨.int .i64 0, ?_, hR w' sv' ⟨fun n P K h => hT.inj hf.tr (hm.trans (mp.trans m6)) h, fun b c ty hb n1 n2 n3 => svw_keep hTp hSp hf.on (kpp _ _ _ (kp6 _ _ _ hb n3)) n1 n2, hf.ss, (b6.trans bp).trans (svw_below hSp hf.on (Below.refl B0 V) h1 h2 (by have := tr_lt hTp; omega))⟩⟩
    have hc : w'.cell? ⟨a6, 0, none⟩ = some (.int .i64 0) := hk.cell 0
    have hld2 : (loadVar 35 ⟨a6, 0, none⟩).run Tryz.prog w' = .ok (.int .i64 0) w' := by
      simp [go_sem, hc]
    have ht' : tmps[6]?.getD undef = .pointer (some ⟨a6, 0, none⟩) := by simpa using htm
    simp [results, hres, ht', asAddr, hld2]
end Go.Proofs.YthgclfhfipfknaaGreat
