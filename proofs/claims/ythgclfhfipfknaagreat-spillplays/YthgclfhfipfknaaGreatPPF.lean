/- Package spill: a chain, in plain words. -/
/- Package space: a transaction that is laid, and its free pages. -/
import Derived.Test.YthgclfhfipfknaaGreatPPD
import Derived.Test.YthgclfhfipfknaaGreatPLG
import Derived.Test.YthgclfhfipfknaaGreatQH
import Derived.Test.YthgclfhfipfknaaGreatQA
namespace Go.Proofs.YthgclfhfipfknaaGreat
open Go.ChangeShapes Go.WideShapes Go.ChangeAt Go.RowKit
set_option linter.unusedVariables false

/-- A chain of pages from one on: what it holds, its pages. -/
inductive Cn (P : Nat → List UInt8) (n : Nat) : Nat → List UInt8 → List Nat → Prop where
  | nil : Cn P n 0 [] []
  | cons {g next : Nat} {d : List UInt8} {G : List Nat} (h2 : 2 ≤ g) (hn : g ≤ n) (hd : d ≠ []) (hp : P g = chL ⟨(d.take 240).toArray⟩ next) (hl : next < 4294967296) (h : Cn P n next (d.drop 240) G) : Cn P n g d (g :: G)
theorem ba_size (l : List UInt8) : (⟨l.toArray⟩ : ByteArray).size = l.length := by show l.toArray.size = _; simp
theorem ch_facts (p : ByteArray) (next : Nat) (h1 : p.size ≤ 240) (hn : next < 4294967296) : kindV (chL p next) = 5 ∧ cntV (chL p next) = pcN p 60 ∧ linkV (chL p next) = next ∧ ∀ i, i < pcN p 60 → cellS (chL p next) i = pcS p 60 i := by
  obtain ⟨q1, q2, q3, q4, q5, _⟩ := page_facts 5 next (pcN p 60) (pcS p 60) (by omega) hn (fun i hi => by have := pcS_size p 60 i (by omega) hi; omega) (ch_fits p h1).2
  exact ⟨(if_pos q1).trans q2, (if_pos q1).trans q3, (if_pos q1).trans q4, q5⟩
theorem eat_pieces (S : Nat → ByteArray) (p : ByteArray) (left : Nat) (x : List UInt8) (hp : p.size = min left 240) : ∀ k, k ≤ pcN p 60 → (∀ i, i < k → S i = pcS p 60 i) → eat S (List.range k) left x = some (left - min (k * 60) p.size, x ++ p.data.toList.take (k * 60))
  | 0, _, _ => by simp [eat]
  | k + 1, hk, hS => by
    rw [List.range_succ, eat_snoc, eat_pieces S p left x hp k (by omega) (fun i hi => hS i (by omega))]
    have hs := pcS_size p 60 k (by omega) (by omega)
    have hl := (pcN_lt p 60 k (by omega)).1 (by omega)
    simp only [eatS, Option.bind_some]
    rw [hS k (by omega), if_pos (by omega), pcS_toL, List.append_assoc, ← List.take_add]
    rw [show k * 60 + 60 = (k + 1) * 60 by omega, show left - min (k * 60) p.size - (pcS p 60 k).size = left - min ((k + 1) * 60) p.size by omega]
theorem Cn.all {P : Nat → List UInt8} {n g : Nat} {d : List UInt8} {G : List Nat} (h : Cn P n g d G) : ∀ k ∈ G, 2 ≤ k ∧ k ≤ n := by
  induction h with
  | nil => simp
  | cons h2 hn hd hp hl h ih =>
    intro k hk
    rcases List.mem_cons.1 hk with rfl | hk
    · exact ⟨h2, hn⟩
    · exact ih k hk
theorem Cn.same {P Q : Nat → List UInt8} {n m g : Nat} {d : List UInt8} {G : List Nat} (h : Cn P n g d G) (hq : ∀ k ∈ G, Q k = P k) (hm : n ≤ m) : Cn Q m g d G := by
  induction h with
  | nil => exact .nil
  | cons h2 hn hd hp hl h ih => exact .cons h2 (by omega) hd ((hq _ (by simp)).trans hp) hl (ih (fun k hk => hq k (by simp [hk])))
theorem Cn.fnd {P : Nat → List UInt8} {m g : Nat} {d : List UInt8} {G : List Nat} (h : Cn P m g d G) : ∀ f x H, d.length ≤ f → Go.Proofs.YthgclfhfipfknaaGreat.fnd P m f g d.length x H = some (x ++ d, H ++ G) := by
  induction h with
  | nil => intro f x H _; rw [List.length_nil, fnd_end]; simp
  | @cons g next d G h2 hn hd hp hl h ih =>
    intro f x H hf
    have h0 : d.length ≠ 0 := fun e => hd (List.length_eq_zero_iff.1 e)
    have hs : (⟨(d.take 240).toArray⟩ : ByteArray).size = min d.length 240 := by rw [ba_size, List.length_take, Nat.min_comm]
    obtain ⟨q1, q2, q3, q4⟩ := ch_facts ⟨(d.take 240).toArray⟩ next (by rw [hs]; omega) hl
    rw [← hp] at q1 q2 q3 q4
    have hN : pcN ⟨(d.take 240).toArray⟩ 60 = cellsN d.length := by unfold pcN cellsN; rw [hs]
    have hc := cellsN_pos h0
    have he := eat_pieces (cellS (P g)) ⟨(d.take 240).toArray⟩ d.length x hs (cellsN d.length) (by rw [hN]; exact Nat.le_refl _) (fun i hi => q4 i (by rw [hN]; exact hi))
    have hm : min d.length 240 ≤ cellsN d.length * 60 := by unfold cellsN; omega
    rw [hs, Nat.min_eq_right hm] at he
    have e1 : d.length - min d.length 240 = (d.drop 240).length := by rw [List.length_drop]; omega
    have e2 : (⟨(d.take 240).toArray⟩ : ByteArray).data.toList.take (cellsN d.length * 60) = d.take 240 := by
      show (d.take 240).take _ = _
      rw [List.take_of_length_le (by rw [List.length_take]; omega)]
    rw [e1, e2] at he
    rw [fnd_step P m f g d.length _ x _ H h0 hf ⟨h2, hn, q1, by rw [q2, hN]⟩ he, q3, ih (f - 1) _ _ (by rw [List.length_drop]; omega)]
    simp
theorem Cn.snoc {P Q : Nat → List UInt8} {n m q g : Nat} {p : List UInt8} (h2 : 2 ≤ g) (hg : g ≤ m) (hm : n ≤ m) (hg4 : g < 4294967296) (hp0 : p ≠ []) (hp : p.length ≤ 240) (hQg : Q g = chL ⟨p.toArray⟩ 0) : ∀ {G : List Nat} {f : Nat} {d : List UInt8}, Cn P n f d (G ++ [q]) → d.length = 240 * (G.length + 1) → (∀ k ∈ G, Q k = P k) → Q q = chL ⟨(d.drop (240 * G.length)).toArray⟩ g → Cn Q m f (d ++ p) (G ++ [q] ++ [g])
  | [], f, d, h, hd, hQ, hq => by
    rw [List.nil_append] at h
    cases h with
    | cons k2 kn kd kp kl k =>
      rw [List.length_nil, Nat.mul_zero, List.drop_zero] at hq
      rw [List.length_nil] at hd
      have e1 : (d ++ p).take 240 = d := by rw [List.take_append_of_le_length (by omega), List.take_of_length_le (by omega)]
      have e2 : (d ++ p).drop 240 = p := by rw [List.drop_append_of_le_length (by omega), List.drop_of_length_le (by omega), List.nil_append]
      refine .cons k2 (by omega) (by simp [hp0]) (by rw [e1]; exact hq) hg4 ?_
      rw [e2]
      refine .cons h2 hg hp0 (by rw [List.take_of_length_le hp]; exact hQg) (by omega) ?_
      rw [List.drop_of_length_le hp]
      exact .nil
  | a :: G, f, d, h, hd, hQ, hq => by
    cases h with
    | cons k2 kn kd kp kl k =>
      rw [List.length_cons] at hd hq
      have e1 : (d ++ p).take 240 = d.take 240 := List.take_append_of_le_length (by omega)
      have e2 : (d ++ p).drop 240 = d.drop 240 ++ p := List.drop_append_of_le_length (by omega)
      refine .cons k2 (by omega) (by simp [hp0]) (by rw [e1, hQ a (by simp)]; exact kp) kl ?_
      rw [e2]
      refine Cn.snoc h2 hg hm hg4 hp0 hp hQg k (by rw [List.length_drop]; omega) (fun j hj => hQ j (by simp [hj])) ?_
      rw [List.drop_drop, show 240 + 240 * G.length = 240 * (G.length + 1) by omega]
      exact hq
theorem getD_lt {l : List Nat} {k : Nat} (h : k < l.length) : l.getD k 0 = l[k] := by simp [List.getD, h]
theorem nodup_inj {l : List Nat} (hn : l.Nodup) {i j : Nat} (hi : i < l.length) (hj : j < l.length) (h : l[i] = l[j]) : i = j := by
  have hp := List.pairwise_iff_getElem.1 hn
  rcases Nat.lt_trichotomy i j with a | a | a
  · exact absurd h (hp i j hi hj a)
  · exact a
  · exact absurd h.symm (hp j i hj hi a)
/-- Which page is taken as the next one but k. -/
def tkAt (n : Nat) (F : List Nat) (k : Nat) : Nat := if k < F.length then F.getD k 0 else n + 1 + (k - F.length)
def tkL (n : Nat) (F : List Nat) (k : Nat) : List Nat := (List.range k).map (tkAt n F)
theorem tkL_succ (n : Nat) (F : List Nat) (k : Nat) : tkL n F (k + 1) = tkL n F k ++ [tkAt n F k] := by simp [tkL, List.range_succ]
theorem tkL_length (n : Nat) (F : List Nat) (k : Nat) : (tkL n F k).length = k := by simp [tkL]
theorem tkAt_mem (n : Nat) (F : List Nat) (k : Nat) : tkAt n F k ∈ F ∨ n < tkAt n F k := by
  unfold tkAt
  split
  · rename_i h
    left
    rw [getD_lt h]
    exact List.getElem_mem h
  · right; omega
theorem tkAt_inj {n : Nat} {F : List Nat} (hn : F.Nodup) (hF : ∀ g ∈ F, g ≤ n) {i j : Nat} (h : tkAt n F i = tkAt n F j) : i = j := by
  unfold tkAt at h
  split at h <;> split at h
  · rename_i a b
    rw [getD_lt a, getD_lt b] at h
    exact nodup_inj hn a b h
  · rename_i a b
    rw [getD_lt a] at h
    have := hF _ (List.getElem_mem a)
    omega
  · rename_i a b
    rw [getD_lt b] at h
    have := hF _ (List.getElem_mem b)
    omega
  · omega
theorem tkL_not {n : Nat} {F : List Nat} (hn : F.Nodup) (hF : ∀ g ∈ F, g ≤ n) (k : Nat) : tkAt n F k ∉ tkL n F k := by
  intro h
  obtain ⟨j, hj, e⟩ := List.mem_map.1 h
  have := tkAt_inj hn hF e
  have := List.mem_range.1 hj
  omega
theorem tkL_nodup {n : Nat} {F : List Nat} (hn : F.Nodup) (hF : ∀ g ∈ F, g ≤ n) : ∀ k, (tkL n F k).Nodup
  | 0 => by simp [tkL]
  | k + 1 => by
    rw [tkL_succ]
    refine List.nodup_append.2 ⟨tkL_nodup hn hF k, by simp, fun a ha b hb e => ?_⟩
    simp at hb
    subst hb
    subst e
    exact tkL_not hn hF k ha
end Go.Proofs.YthgclfhfipfknaaGreat

namespace Go.Proofs.YthgclfhfipfknaaGreat
variable {sv : Value}
open Go.ChangeShapes Go.WideShapes Go.ChangeAt Go.RowKit Go.Maps
set_option linter.unusedVariables false

structure Sp (sv : Value) (w : World) (t pm n : Nat) (P : Nat → List UInt8) (K : Nat) (F : List Nat) (N : Nat → Nat) : Prop where
  ld : Ld sv w t pm n P K (F.headD 0) N
  ch : Ch P n (F.headD 0) F
  nd : F.Nodup
theorem Sp.later {w w' : World} {t pm n : Nat} {P : Nat → List UInt8} {K : Nat} {F : List Nat} {N : Nat → Nat} (h : Sp sv w t pm n P K F N) (hb : Below w.heap.size w w') : Sp sv w' t pm n P K F N := ⟨h.ld.later hb, h.ch, h.nd⟩
theorem Ch.head {P : Nat → List UInt8} {n L : Nat} {G : List Nat} (h : Ch P n L G) : L = G.headD 0 := by cases h <;> rfl
/-- A page is taken. -/
theorem take_g (w : World) (t pm n : Nat) {P : Nat → List UInt8} {K : Nat} {F : List Nat} {N : Nat → Nat} (h : Sp sv w t pm n P K F N) (hK : K ≤ 100000) (hn : F = [] → n < 4096) :
    Calls Tryz.prog 119 #[.pointer (some ⟨t, 0, none⟩)] w fun e w' => ∃ P', e = .returned (.tuple #[.int .i64 (tkAt n F 0 : Int), .int .i64 0]) ∧ Sp sv w' t pm (n + (1 - F.length)) P' (K + 1) F.tail N ∧ (∀ j, 2 ≤ j → j ≤ n → P' j = P j) ∧ Only [t, pm] w w' := by
  cases F with
  | nil =>
    have hl : n < 4096 := hn rfl
    refine (take_more w t pm n (N := N) h.ld hK hl).mono ?_
    rintro e w' ⟨rfl, h1, h2⟩
    have one := h.ld.one
    refine ⟨_, by simp [tkAt], ⟨⟨h1, by simp, ?_, by simp, h.ld.nm⟩, .nil, List.nodup_nil⟩, fun j _ hj => upP_off _ _ (by omega), h2⟩
    rw [upP_off _ _ (by omega)]
    exact h.ld.fst
  | cons g G =>
    obtain ⟨k2, kn, kf, kc⟩ := h.ch.take (firstL (linkV (P g)) N)
    refine (take_free w t pm n (N := N) h.ld hK k2 kn kf h.ld.tr.few).mono ?_
    rintro e w' ⟨rfl, h1, h2⟩
    have hh : linkV (P g) = G.headD 0 := by
      obtain ⟨_, _, _, kc'⟩ := h.ch.take (P 1)
      exact kc'.head
    have one := h.ld.one
    have hlk : G.headD 0 < 4294967296 := by rw [← hh]; exact linkV_lt _
    rw [show (g :: G).headD 0 = g from rfl] at h1 kc
    rw [hh] at h1 kc
    have e0 : n + (1 - (g :: G).length) = n := by simp
    rw [e0]
    exact ⟨_, by simp [tkAt], ⟨⟨h1, one, fst_of (upP_at _ _ _) hlk h.ld.nm, hlk, h.ld.nm⟩, kc, (List.nodup_cons.1 h.nd).2⟩, fun j hj _ => upP_off _ _ (by omega), h2⟩
/-- A page that is not free is written. -/
theorem Sp.put {w w' : World} {t pm n g : Nat} {P : Nat → List UInt8} {K K' : Nat} {F : List Nat} {N : Nat → Nat} {l : List UInt8} (h : Sp sv w t pm n P K F N) (ht : Tr sv w' t pm n (upP P g l) K' true) (h2 : 2 ≤ g) (hF : g ∉ F) : Sp sv w' t pm n (upP P g l) K' F N :=
  ⟨⟨ht, h.ld.one, by rw [upP_off _ _ (by omega)]; exact h.ld.fst, h.ld.lk, h.ld.nm⟩, h.ch.same (fun k hk => upP_off _ _ (fun e => hF (by rw [← e]; exact hk))) (Nat.le_refl _), h.nd⟩
theorem put_g (w : World) (t pm n g : Nat) {P : Nat → List UInt8} {K : Nat} {F : List Nat} {N : Nat → Nat} (h : Sp sv w t pm n P K F N) (hK : K ≤ 100000) (h2 : 2 ≤ g) (hg : g ≤ n) (hF : g ∉ F) (l : List UInt8) (hl : l.length = 256) :
    Calls Tryz.prog 20 #[.pointer (some ⟨t, 0, none⟩), .int .i64 (g : Int), .agg (bc l)] w fun e w' => e = .returned (.int .i64 0) ∧ Sp sv w' t pm n (upP P g l) (K + 1) F N ∧ Only [t, pm] w w' := by
  have few := h.ld.tr.few
  refine (put_e w _ (g : Int) l hl 0 _ (PtK.inn (k := g) h.ld.tr (by omega) (by omega) (by omega) hK)).mono ?_
  rintro e w' ⟨rfl, h1, h3⟩
  rw [Nat.max_eq_left hg] at h1
  exact ⟨rfl, h.put h1 h2 hF, h3⟩
/-- A page is given back. -/
theorem give_g (w : World) (t pm n g : Nat) {P : Nat → List UInt8} {K : Nat} {F : List Nat} {N : Nat → Nat} (h : Sp sv w t pm n P K F N) (hK : K ≤ 99998) (h2 : 2 ≤ g) (hg : g ≤ n) (hF : g ∉ F) :
    Calls Tryz.prog 42 #[.pointer (some ⟨t, 0, none⟩), .int .i64 (g : Int)] w fun e w' => ∃ P', e = .returned (.int .i64 0) ∧ Sp sv w' t pm n P' (K + 2) (g :: F) N ∧ (∀ j, 2 ≤ j → j ≠ g → P' j = P j) ∧ Only [t, pm] w w' := by
  obtain ⟨hr, hc⟩ := h.ch.give (N := N) h.ld.lk h2 hg hF
  have few := h.ld.tr.few
  refine (give_e w t pm n (N := N) h.ld hK g h2 hg).mono ?_
  rintro e w' ⟨rfl, h1, h3⟩
  rw [hr] at h1
  have hgv : gvP P n g (F.headD 0) N = upP (upP P g (freeL (F.headD 0))) 1 (firstL g N) := by unfold gvP; rw [hr]; rfl
  refine ⟨_, rfl, ⟨⟨h1, h.ld.one, ?_, by simp; omega, h.ld.nm⟩, hc, List.nodup_cons.2 ⟨hF, h.nd⟩⟩, fun j hj hjg => ?_, h3⟩
  · exact fst_of (by rw [hgv, upP_at]; rfl) (by simp; omega) h.ld.nm
  · rw [hgv, upP_off _ _ (by omega), upP_off _ _ hjg]
/-- Types that are none of a transaction's own blocks. -/
def Ot (ty : TypeId) : Prop := ty ≠ 141 ∧ ty ≠ 145 ∧ ty ≠ 241 ∧ ty ≠ 122
theorem Tr.onlyX {w V : World} {t pm n : Nat} {P : Nat → List UInt8} {K : Nat} {wr : Bool} {S : List Nat} (h : Tr sv w t pm n P K wr) (ho : Only S w V) (hS : ∀ b ∈ S, ∃ c ty, Blk w b c ty ∧ Ot ty) : Tr sv V t pm n P K wr := by
  obtain ⟨⟨j, d, mb, l, room, L, cn, h1, h2, h3⟩, ⟨D, ⟨es, cl, he, q1, q2, q3⟩, q4, q5⟩, h5, h6⟩ := h
  have hk : ∀ {b : Nat} {c : Array Value} {ty : TypeId}, Blk w b c ty → ¬ Ot ty → b ∉ S := fun {b c ty} hb n1 hm => by
    obtain ⟨c', ty', hb', ht'⟩ := hS _ hm
    have := hb.symm.trans hb'
    injection this with this
    injection this with _ e _
    subst e
    exact n1 ht'
  have hmp : ∀ {b : Nat} {es : Array MapEntry} {cl : Nat}, w.heap[b]? = some (.map es cl) → b ∉ S := fun {b es cl} hb hm => by
    obtain ⟨c', ty', hb', ht'⟩ := hS _ hm
    exact blk_map hb' hb rfl
  exact ⟨⟨j, d, mb, l, room, L, cn, h1.only ho (hk h1.jr (fun h => h.1 rfl)) (hk h1.de.blk (fun h => h.2.1 rfl)) (hmp h1.de.mp) (hk h1.lk (fun h => h.2.2.1 rfl)), Blk.only h2 ho (hk h2 (fun h => h.2.2.2 rfl)), h3⟩, ⟨D, ⟨es, cl, ho.blk he (hmp he), q1, q2, q3⟩, q4, q5⟩, h5, h6⟩
theorem Sp.onlyX {w V : World} {t pm n : Nat} {P : Nat → List UInt8} {K : Nat} {F : List Nat} {N : Nat → Nat} {S : List Nat} (h : Sp sv w t pm n P K F N) (ho : Only S w V) (hS : ∀ b ∈ S, ∃ c ty, Blk w b c ty ∧ Ot ty) : Sp sv V t pm n P K F N :=
  ⟨⟨h.ld.tr.onlyX ho hS, h.ld.one, h.ld.fst, h.ld.lk, h.ld.nm⟩, h.ch, h.nd⟩
end Go.Proofs.YthgclfhfipfknaaGreat
