/- SpillBack: what is kept of payloads that were put in. -/
import Derived.Test.YthgclfhfipfknaaGreatPPO
import Derived.Test.YthgclfhfipfknaaGreatPPQ
namespace Go.Proofs.YthgclfhfipfknaaGreat
variable {sv : Value}
open Go.ChangeShapes Go.WideShapes Go.ChangeAt Go.RowKit Go.Maps
set_option linter.unusedVariables false

/-- A payload that is kept: its stub, its chain's first page, its chain. -/
structure Kd where
  st : ByteArray
  f : Nat
  G : List Nat
structure Kp1 (P : Nat → List UInt8) (n : Nat) (s : ByteArray) (x : Kd) : Prop where
  st : s.size ≤ 4000 → x.st = stubB s x.f
  bad : 4000 < s.size → x.G = []
  f4 : x.f < 4294967296
  sh : s.size ≤ 40 → x.G = []
  lg : 40 < s.size → s.size ≤ 4000 → Cn P n x.f (s.data.toList.drop 40) x.G
  gl : x.G.length ≤ 17
theorem Kp1.same {P Q : Nat → List UInt8} {n m : Nat} {s : ByteArray} {x : Kd} (h : Kp1 P n s x) (hq : ∀ k ∈ x.G, Q k = P k) (hm : n ≤ m) : Kp1 Q m s x := ⟨h.st, h.bad, h.f4, h.sh, fun a b => (h.lg a b).same hq hm, h.gl⟩
set_option maxRecDepth 20000 in
theorem put_big (w : World) (t pm n : Nat) {P : Nat → List UInt8} {K : Nat} (h : Tr sv w t pm n P K true) (s : ByteArray) (hs : 4000 < s.size) : Calls Tryz.prog 12 #[.pointer (some ⟨t, 0, none⟩), .string s] w fun e w' => e = .returned (.tuple #[.string ⟨#[]⟩, .int .i64 3]) ∧ Below w.heap.size w w' := by
  have HM := hide (pmayChange_e w _ 4 _ h.mayC)
  rw [show unN 4 = 0 by rfl] at HM
  have l1 : (4000 : Int) < (s.size : Int) := by omega
  clear h hs
  go_enter Tryz.func12, Tryz.ntmps12
  go_wp2_with (first
    | (go_at_call 36; (with_reducible refine Calls.mono HM.out ?_); rintro e w4 ⟨rfl, hb⟩; have HB4 := hide hb; clear hb))
  go_ret2
  exact ⟨rfl, HB4.out⟩
/-- What Put of any payload leaves where no page is free. -/
def PuE (w w' : World) (B0 t pm n base : Nat) (P : Nat → List UInt8) (K : Nat) (N : Nat → Nat) (s : ByteArray) (x : Kd) : Prop := ∃ sv' P' K' n', Sp sv' w' t pm n' P' K' [] N ∧ Sv w' base sv' [] pm ∧ Kb B0 95 w w' ∧ K' ≤ K + 51 ∧ n' = n + x.G.length ∧ x.G.Nodup ∧ (∀ g ∈ x.G, n < g ∧ g ≤ n') ∧ (∀ i, 2 ≤ i → i ≤ n → P' i = P i) ∧ Kp1 P' n' s x
theorem put_s (w : World) (B0 t pm n base : Nat) {P : Nat → List UInt8} {K : Nat} {N : Nat → Nat} (h : Sp sv w t pm n P K [] N) (hs : Sv w base sv [] pm) (s : ByteArray) (hK : K ≤ 70000) (hn : n + 17 ≤ 4096) (h0 : B0 ≤ t ∧ B0 ≤ pm ∧ B0 ≤ base ∧ base ≤ w.heap.size) :
    Calls Tryz.prog 12 #[.pointer (some ⟨t, 0, none⟩), .string s] w fun e w' => ∃ x : Kd, e = .returned (.tuple #[.string x.st, .int .i64 (if s.size ≤ 4000 then 0 else 3)]) ∧ PuE w w' B0 t pm n base P K N s x := by
  have hb0 : B0 ≤ w.heap.size := by omega
  by_cases h4 : s.size ≤ 4000
  · rw [if_pos h4]
    by_cases h40 : s.size ≤ 40
    · refine (put_short w t pm n h.ld.tr s h40).mono ?_
      rintro e w' ⟨rfl, hb⟩
      refine ⟨⟨_, 0, []⟩, rfl, sv, P, K, n, h.later hb, hs.later hb, Kb.of_below hb hb0, by omega, by simp, by simp, by simp, fun _ _ _ => rfl, ⟨fun _ => ?_, fun _ => rfl, by simp, fun _ => rfl, fun a => by omega, by simp⟩⟩
      show _ = stubB s 0
      unfold stubB
      rw [if_pos h40]
    · have hrs : (s.extract 40 s.size).size = s.size - 40 := by rw [ByteArray.size_extract]; omega
      have hM : pcN (s.extract 40 s.size) 240 ≤ 17 := by unfold pcN; rw [hrs]; omega
      refine (put_long w B0 t pm n base h hs s (by omega) h4 hK (by simp; omega) h0).mono ?_
      rintro e w' ⟨rfl, sv', P', K', g1, g2, g3, g4, g5, g6⟩
      have e0 : ∀ k, tkAt n [] k = n + 1 + k := fun k => by unfold tkAt; rw [if_neg (by simp)]; simp
      have hl := tkL_length n [] (pcN (s.extract 40 s.size) 240)
      have hrl : (s.extract 40 s.size).data.toList = s.data.toList.drop 40 := by
        have hl : s.data.toList.length = s.size := bytes_size s
        rw [ByteArray.data_extract, Array.toList_extract, List.extract_eq_take_drop, List.take_of_length_le (by rw [List.length_drop, hl]; exact Nat.le_refl _)]
      rw [hrl] at g4
      rw [List.length_nil, Nat.sub_zero, List.drop_nil] at g1
      rw [List.length_nil, Nat.sub_zero] at g4
      have hmem : ∀ g ∈ tkL n [] (pcN (s.extract 40 s.size) 240), n < g ∧ g ≤ n + pcN (s.extract 40 s.size) 240 := fun g hg => by
        obtain ⟨k, hk, rfl⟩ := List.mem_map.1 hg
        have := List.mem_range.1 hk
        rw [e0]
        omega
      refine ⟨⟨_, tkAt n [] 0, tkL n [] (pcN (s.extract 40 s.size) 240)⟩, rfl, sv', P', K', n + pcN (s.extract 40 s.size) 240, g1, g5, g6, by omega, by rw [hl], tkL_nodup (by simp) (by simp) _, hmem, fun i h2 hi => g3 i h2 hi (fun hm => by have := (hmem i hm).1; omega), ⟨fun _ => ?_, fun a => by omega, by show tkAt n [] 0 < _; have := e0 0; omega, fun a => absurd a h40, fun _ _ => g4, by rw [hl]; exact hM⟩⟩
      show _ = stubB s (tkAt n [] 0)
      unfold stubB
      rw [if_neg h40]
  · rw [if_neg h4]
    refine (put_big w t pm n h.ld.tr s (by omega)).mono ?_
    rintro e w' ⟨rfl, hb⟩
    exact ⟨⟨⟨#[]⟩, 0, []⟩, rfl, sv, P, K, n, h.later hb, hs.later hb, Kb.of_below hb hb0, by omega, by simp, by simp, by simp, fun _ _ _ => rfl, ⟨fun a => absurd a h4, fun _ => rfl, by simp, fun _ => rfl, fun _ a => absurd a h4, by simp⟩⟩
/-- The payloads so far are put in. -/
structure P1 (sv : Value) (w wr : World) (t pm base n : Nat) (P : Nat → List UInt8) (K : Nat) (pl : Nat → ByteArray) (Ks : List Kd) : Prop where
  sp : Sp sv wr t pm n P K [] zN
  ss : Sv wr base sv [] pm
  bel : Below w.heap.size w wr
  k3 : K ≤ 1 + 51 * Ks.length
  n17 : n ≤ 1 + 17 * Ks.length
  kp : ∀ i x, Ks[i]? = some x → Kp1 P n (pl i) x
  nd : (Ks.flatMap Kd.G).Nodup
  bd : ∀ g ∈ Ks.flatMap Kd.G, 2 ≤ g ∧ g ≤ n
  ln : (Ks.flatMap Kd.G).length + 1 = n
  bs : w.heap.size ≤ t ∧ w.heap.size ≤ pm ∧ w.heap.size ≤ base ∧ base ≤ wr.heap.size
theorem P1.later {w wr w' : World} {t pm base n : Nat} {P : Nat → List UInt8} {K : Nat} {pl : Nat → ByteArray} {Ks : List Kd} (h : P1 sv w wr t pm base n P K pl Ks) (hb : Below wr.heap.size wr w') : P1 sv w w' t pm base n P K pl Ks :=
  ⟨h.sp.later hb, h.ss.later hb, below_trans h.bel hb, h.k3, h.n17, h.kp, h.nd, h.bd, h.ln, ⟨h.bs.1, h.bs.2.1, h.bs.2.2.1, Nat.le_trans h.bs.2.2.2 hb.size⟩⟩
/-- The row of stubs. -/
def stV (x : Kd) : Value := .string x.st
def RwS (wr : World) (base : Nat) (v : Value) (Ks : List Kd) : Prop := wr.ownsRow base 9 1 v Ks.length (Ks.map stV)
theorem RwS.keep {wr w' : World} {base : Nat} {v : Value} {Ks : List Kd} {B0 : Nat} (h : RwS wr base v Ks) (hk : Kb B0 95 wr w') : RwS w' base v Ks := by
  unfold RwS at h ⊢
  refine ⟨h.1, ?_⟩
  rcases h.2 with hn | ⟨g, cap, cur, rfl, hb, hgg, rest⟩
  · exact .inl hn
  · exact .inr ⟨g, cap, cur, rfl, hb, hk.kp _ _ _ hgg (by decide) (by decide) (by decide), rest⟩
theorem RwS.later {wr w' : World} {base : Nat} {v : Value} {Ks : List Kd} (h : RwS wr base v Ks) (hb : Below wr.heap.size wr w') : RwS w' base v Ks := h.keep (Kb.of_below (B0 := 0) hb (Nat.zero_le _))
theorem P1.put {w wr w' : World} {t pm base n : Nat} {P : Nat → List UInt8} {K : Nat} {pl : Nat → ByteArray} {Ks : List Kd} {x : Kd} (h : P1 sv w wr t pm base n P K pl Ks) (hp : PuE wr w' w.heap.size t pm n base P K zN (pl Ks.length) x) : ∃ sv' P' K' n', P1 sv' w w' t pm base n' P' K' pl (Ks ++ [x]) ∧ Kb w.heap.size 95 wr w' := by
  obtain ⟨sv', P', K', n', h1, h2, h3, h4, h5, h6, h7, h8, h9⟩ := hp
  have hgl := h9.gl
  have k3 := h.k3
  have n17 := h.n17
  have hln := h.ln
  refine ⟨sv', P', K', n', ⟨h1, h2, h.bel.trans h3.bel, by simp; omega, by simp; omega, fun i y hy => ?_, ?_, fun g hg => ?_, by simp only [List.flatMap_append, List.flatMap_cons, List.flatMap_nil, List.append_nil, List.length_append]; omega, ⟨h.bs.1, h.bs.2.1, h.bs.2.2.1, Nat.le_trans h.bs.2.2.2 h3.bel.size⟩⟩, h3⟩
  · rcases Nat.lt_trichotomy i Ks.length with hi | hi | hi
    · rw [List.getElem?_append_left hi] at hy
      refine (h.kp i y hy).same (fun k hk => ?_) (by omega)
      have hb := h.bd k (List.mem_flatMap.2 ⟨y, List.mem_of_getElem? hy, hk⟩)
      exact h8 k hb.1 hb.2
    · subst hi
      rw [List.getElem?_append_right (Nat.le_refl _), Nat.sub_self] at hy
      obtain rfl : x = y := by simpa using hy
      exact h9
    · rw [List.getElem?_eq_none (by simp; omega)] at hy
      cases hy
  · simp only [List.flatMap_append, List.flatMap_cons, List.flatMap_nil, List.append_nil]
    refine List.nodup_append.2 ⟨h.nd, h6, fun a ha b hb e => ?_⟩
    subst e
    have := (h.bd a ha).2
    have := (h7 a hb).1
    omega
  · simp only [List.flatMap_append, List.flatMap_cons, List.flatMap_nil, List.append_nil, List.mem_append] at hg
    rcases hg with hg | hg
    · have := h.bd g hg; omega
    · have := h7 g hg; have := h.sp.ld.one; omega
/-- Beside an append to the row of stubs. -/
theorem P1.grown {w wr w' : World} {t pm base n : Nat} {P : Nat → List UInt8} {K : Nat} {pl : Nat → ByteArray} {Ks Ls : List Kd} {v : Value} (h : P1 sv w wr t pm base n P K pl Ks) (hr : RwS wr base v Ls) (hg : wr.grownBy w' v.ownBlock) : P1 sv w w' t pm base n P K pl Ks := by
  have ho := Only.of_grown hg
  have hX : ∀ b ∈ v.ownBlock.toList, base ≤ b ∧ ∃ c, Blk wr b c 9 := fun b hb => by
    have e : v.ownBlock = some b := by simpa using hb
    exact ownC_blk hr e
  refine ⟨h.sp.onlyX ho (fun b hb => let ⟨c, hc⟩ := (hX b hb).2; ⟨c, _, hc, by unfold Ot; decide⟩), h.ss.only ho (fun g e hm => ?_) (fun s hs => by cases hs), below_only h.bel ho (fun g hg => Nat.le_trans h.bs.2.2.1 (hX g hg).1), h.k3, h.n17, h.kp, h.nd, h.bd, h.ln, ⟨h.bs.1, h.bs.2.1, h.bs.2.2.1, Nat.le_trans h.bs.2.2.2 ho.size⟩⟩
  obtain ⟨_, c, hc⟩ := hX g hm
  obtain ⟨_, c', hb⟩ := ownC_blk h.ss.row e
  exact blk_ne hb hc (by decide) rfl
theorem wp_appS2 {ops : Array Oper} {rest : List Oper} {o : Oper} {a : Act} {Q : Exit → Act → World → Prop} {w : World} {base n : Nat} {v : Value} {xs : List Value} (hown : w.ownsRow base 9 1 v n xs) {ad : Addr} {m c : Nat} {news : List Value}
    (hl : news.length = m * 1) (hnews : ∀ j u, news[j]? = some u → w.cell? (ad.add j) = some u) (h1 : ∀ u ∈ news, u.oneCell' = true) (hn : (n + m) * 16 ≤ 140737488355328) (hbase : base ≤ w.heap.size) (s z : Operand)
    (hgd : o.guard = none) (ho : o.op = .call { callee := .builtin .append, args := #[s, z], argTypes := #[53, 53] }) (hs : a.eval s = v) (hz : a.eval z = .slice (some ad) m c)
    (hk : ∀ v' w', w'.ownsRow base 9 1 v' (n + m) (xs ++ news) → w.grownBy w' v.ownBlock → wpList Tryz.prog ops Q rest (a.put o.dst v') w') : wpList Tryz.prog ops Q (o :: rest) a w := by
  obtain ⟨i, hi, hz0, hsz, hby⟩ := str_info
  exact wpList_append_own w hgd s z 53 ho base 9 i _ 1 16 Tryz.underlying53 hi hz0 hsz hby rfl (by omega) v n xs hs hown ad m c news hz hl hnews h1 (by simp only [maxLen]; omega) hn hbase (fun v' w' h2 h3 h4 => hk v' w' h2 h3)
theorem rw_app {w' : World} {base : Nat} {v' : Value} {Ks : List Kd} {x : Kd} (h : w'.ownsRow base 9 1 v' (Ks.length + 1) (Ks.map stV ++ [.string x.st])) : RwS w' base v' (Ks ++ [x]) := by
  unfold RwS
  rw [List.length_append, List.length_singleton, List.map_append]
  exact h
/-- So many payloads were taken out. -/
structure P2 (sv : Value) (w wr : World) (t pm base n : Nat) (P : Nat → List UInt8) (K : Nat) (pl : Nat → ByteArray) (Ks : List Kd) (F : List Nat) (j : Nat) : Prop where
  sp : Sp sv wr t pm n P K F zN
  ss : Sv wr base sv [] pm
  bel : Below w.heap.size w wr
  k3 : K ≤ 1 + 51 * Ks.length + 51 * j
  kp : ∀ i x, j ≤ i → Ks[i]? = some x → Kp1 P n (pl i) x
  nd : (F ++ (Ks.drop j).flatMap Kd.G).Nodup
  bd : ∀ g ∈ (Ks.drop j).flatMap Kd.G, 2 ≤ g ∧ g ≤ n
  ln : (F ++ (Ks.drop j).flatMap Kd.G).length + 1 = n
  bs : w.heap.size ≤ t ∧ w.heap.size ≤ pm ∧ w.heap.size ≤ base ∧ base ≤ wr.heap.size
theorem P1.turn {w wr : World} {t pm base n : Nat} {P : Nat → List UInt8} {K : Nat} {pl : Nat → ByteArray} {Ks : List Kd} (h : P1 sv w wr t pm base n P K pl Ks) : P2 sv w wr t pm base n P K pl Ks [] 0 :=
  ⟨h.sp, h.ss, h.bel, by have := h.k3; omega, fun i x _ hx => h.kp i x hx, by simpa using h.nd, by simpa using h.bd, by simpa using h.ln, h.bs⟩
theorem P2.later {w wr w' : World} {t pm base n : Nat} {P : Nat → List UInt8} {K : Nat} {pl : Nat → ByteArray} {Ks : List Kd} {F : List Nat} {j : Nat} (h : P2 sv w wr t pm base n P K pl Ks F j) (hb : Below wr.heap.size wr w') : P2 sv w w' t pm base n P K pl Ks F j :=
  ⟨h.sp.later hb, h.ss.later hb, below_trans h.bel hb, h.k3, h.kp, h.nd, h.bd, h.ln, ⟨h.bs.1, h.bs.2.1, h.bs.2.2.1, Nat.le_trans h.bs.2.2.2 hb.size⟩⟩
theorem drop_kd {Ks : List Kd} {j : Nat} {x : Kd} (hx : Ks[j]? = some x) : Ks.drop j = x :: Ks.drop (j + 1) := by
  obtain ⟨hj, rfl⟩ := List.getElem?_eq_some_iff.1 hx
  exact List.drop_eq_getElem_cons hj
theorem P2.skip {w wr : World} {t pm base n : Nat} {P : Nat → List UInt8} {K : Nat} {pl : Nat → ByteArray} {Ks : List Kd} {F : List Nat} {j : Nat} {x : Kd} (h : P2 sv w wr t pm base n P K pl Ks F j) (hx : Ks[j]? = some x) (h4 : 4000 < (pl j).size) : P2 sv w wr t pm base n P K pl Ks F (j + 1) := by
  have hG := (h.kp j x (Nat.le_refl _) hx).bad h4
  have e : (Ks.drop j).flatMap Kd.G = (Ks.drop (j + 1)).flatMap Kd.G := by rw [drop_kd hx, List.flatMap_cons, hG, List.nil_append]
  exact ⟨h.sp, h.ss, h.bel, by have := h.k3; omega, fun i y hi hy => h.kp i y (by omega) hy, by rw [← e]; exact h.nd, by rw [← e]; exact h.bd, by rw [← e]; exact h.ln, h.bs⟩
theorem P2.drop {w wr w' : World} {t pm base n : Nat} {P : Nat → List UInt8} {K : Nat} {pl : Nat → ByteArray} {Ks : List Kd} {F : List Nat} {j : Nat} {x : Kd} (h : P2 sv w wr t pm base n P K pl Ks F j) (hx : Ks[j]? = some x) (hd : DpE wr w' w.heap.size t pm n base P K F zN x.G) : (∃ sv' P' K', P2 sv' w w' t pm base n P' K' pl Ks (x.G ++ F) (j + 1)) ∧ Kb w.heap.size 95 wr w' := by
  obtain ⟨sv', P', K', h1, h2, h3, h4, h5⟩ := hd
  have hgl := (h.kp j x (Nat.le_refl _) hx).gl
  have hnd := h.nd
  have hln := h.ln
  have hbd := h.bd
  rw [drop_kd hx, List.flatMap_cons] at hnd hln hbd
  have hp : (F ++ (x.G ++ (Ks.drop (j + 1)).flatMap Kd.G)).Perm ((x.G ++ F) ++ (Ks.drop (j + 1)).flatMap Kd.G) := by
    rw [← List.append_assoc]
    exact List.perm_append_comm.append_right _
  have k3 := h.k3
  refine ⟨⟨sv', P', K', h1, h4, h.bel.trans h5.bel, by omega, fun i y hi hy => ?_, hp.nodup_iff.1 hnd, fun g hg => hbd g (List.mem_append_right _ hg), by rw [← hp.length_eq]; exact hln, ⟨h.bs.1, h.bs.2.1, h.bs.2.2.1, Nat.le_trans h.bs.2.2.2 h5.bel.size⟩⟩, h5⟩
  refine (h.kp i y (by omega) hy).same (fun k hk => ?_) (Nat.le_refl _)
  have hkm : k ∈ (Ks.drop (j + 1)).flatMap Kd.G := by
    refine List.mem_flatMap.2 ⟨y, ?_, hk⟩
    have : (Ks.drop (j + 1))[i - (j + 1)]? = some y := by rw [List.getElem?_drop, show j + 1 + (i - (j + 1)) = i by omega]; exact hy
    exact List.mem_of_getElem? this
  refine h3 k (hbd k (List.mem_append_right _ hkm)).1 (fun hkx => ?_)
  have := (List.nodup_append.1 (List.nodup_append.1 hnd).2.1).2.2 k hkx k hkm
  exact this rfl
/-- What the calls answer of a payload that is kept. -/
theorem P2.found {w wr : World} {t pm base n : Nat} {P : Nat → List UInt8} {K : Nat} {pl : Nat → ByteArray} {Ks : List Kd} {F : List Nat} {j : Nat} {x : Kd} (h : P2 sv w wr t pm base n P K pl Ks F j) (hx : Ks[j]? = some x) (h4 : (pl j).size ≤ 4000) : foundR P n x.st = some ((pl j).data.toList, x.G) ∧ rdSz x.st = x.st.size ∧ x.G.Nodup ∧ (∀ g ∈ x.G, g ∉ F) ∧ x.st.size ≤ 60 := by
  have hk := h.kp j x (Nat.le_refl _) hx
  have e := hk.st h4
  have e2 : stubB (pl j) x.f ++ (⟨#[]⟩ : ByteArray) = stubB (pl j) x.f := ByteArray.ext (by simp)
  have hf := stub_found (P := P) (m := n) (x := ⟨#[]⟩) h4 hk.f4 hk.sh (fun a => hk.lg a h4)
  have hr := stub_read (pl j) x.f h4 hk.f4 ⟨#[]⟩
  rw [e2] at hf hr
  have hnd := h.nd
  rw [drop_kd hx, List.flatMap_cons] at hnd
  have hn := List.nodup_append.1 hnd
  have hsz := stubB_size (pl j) x.f
  have hv := Rec.vsz_pos (pl j).size
  rw [e]
  refine ⟨hf, hr.2.2.1, (List.nodup_append.1 hn.2.1).1, fun g hg hF => hn.2.2 g hF g (List.mem_append_left _ hg) rfl, ?_⟩
  rw [hsz]
  split <;> omega
end Go.Proofs.YthgclfhfipfknaaGreat
