/- Package space: which pages are free, in plain words. -/
/- Take where the first free page is none. -/
import Derived.Test.YtenfjbcigkolaaaGreatQE
import Derived.Test.YtenfjbcigkolaaaGreatQG
namespace Go.Proofs.YtenfjbcigkolaaaGreat
open Go.ChangeShapes Go.WideShapes Go.ChangeAt Go.RowKit Go.Maps
set_option linter.unusedVariables false

/-- The pages of a list are met one after another from a link on. -/
inductive Ch (P : Nat → List UInt8) (n : Nat) : Nat → List Nat → Prop where
  | nil : Ch P n 0 []
  | cons {g : Nat} {G : List Nat} (h2 : 2 ≤ g) (hn : g ≤ n) (hf : isFree (P g) = true) (h : Ch P n (linkV (P g)) G) : Ch P n g (g :: G)
theorem Ch.all {P : Nat → List UInt8} {n L : Nat} {G : List Nat} (h : Ch P n L G) : ∀ g ∈ G, 2 ≤ g ∧ g ≤ n := by
  induction h with
  | nil => simp
  | cons h2 hn hf h ih =>
    intro g hg
    rcases List.mem_cons.1 hg with rfl | hg
    · exact ⟨h2, hn⟩
    · exact ih g hg
theorem Ch.same {P Q : Nat → List UInt8} {n m L : Nat} {G : List Nat} (h : Ch P n L G) (hq : ∀ g ∈ G, Q g = P g) (hm : n ≤ m) : Ch Q m L G := by
  induction h with
  | nil => exact .nil
  | @cons g G h2 hn hf h ih =>
    have e := hq g (by simp)
    have := ih (fun g hg => hq g (by simp [hg]))
    rw [← e] at this hf
    exact .cons h2 (by omega) hf this
theorem Ch.lift {P : Nat → List UInt8} {n L k : Nat} {G : List Nat} (h : Ch P n L G) (hk : k ∉ G) : ∀ f last, liftR P n k f L last = none := by
  induction h with
  | nil =>
    intro f last
    cases f with
    | zero => rfl
    | succ f => rw [liftR, if_neg (by omega)]
  | @cons g G h2 hn hf h ih =>
    intro f last
    cases f with
    | zero => rfl
    | succ f =>
      rw [liftR, if_pos ⟨h2, hn, hf⟩, if_neg (fun e => hk (by simp [e]))]
      exact ih (fun hm => hk (by simp [hm])) f g
theorem Ch.free {P : Nat → List UInt8} {n L : Nat} {G : List Nat} (h : Ch P n L G) : ∀ f, G.length ≤ f → freeR P n f L = some G := by
  induction h with
  | nil => intro f _; exact freeR_end
  | @cons g G h2 hn hf h ih =>
    intro f hl
    cases f with
    | zero => simp at hl
    | succ f =>
      rw [freeR, if_neg (by omega), if_pos ⟨h2, hn, hf⟩, ih f (by simpa using hl)]
      rfl
theorem upP_at (P : Nat → List UInt8) (k : Nat) (l : List UInt8) : upP P k l k = l := by simp [upP]
theorem upP_off (P : Nat → List UInt8) {k g : Nat} (l : List UInt8) (h : g ≠ k) : upP P k l g = P g := by simp [upP, h]
theorem linkV_freeL (L : Nat) (hL : L < 4294967296) : linkV (freeL L) = L := by
  obtain ⟨h1, h2, h3, h4, h5, _⟩ := page_facts 0 L 0 noS (by omega) hL (fun i hi => by omega) (by simp [cat])
  exact (if_pos h1).trans h4
theorem isFree_freeL (L : Nat) (hL : L < 4294967296) : isFree (freeL L) = true := by
  unfold isFree
  rw [linkV_freeL L hL]
  simp
/-- A page is given. -/
theorem Ch.give {P : Nat → List UInt8} {n L k : Nat} {G : List Nat} {N : Nat → Nat} (h : Ch P n L G) (hL : L < 4294967296) (h2 : 2 ≤ k) (hn : k ≤ n) (hk : k ∉ G) : lfR P n k L = none ∧ Ch (gvP P n k L N) n k (k :: G) := by
  have hr : lfR P n k L = none := by
    unfold lfR
    split
    · exact h.lift hk _ _
    · rfl
  refine ⟨hr, ?_⟩
  unfold gvP
  rw [hr]
  have e : upP (upP (lfP P none) k (freeL (lfL L none))) 1 (firstL k N) k = freeL L := by rw [upP_off _ _ (by omega), upP_at]; rfl
  refine .cons h2 hn (by rw [e]; exact isFree_freeL L hL) ?_
  rw [e, linkV_freeL L hL]
  exact h.same (fun g hg => by rw [upP_off _ _ (by have := h.all g hg; omega), upP_off _ _ (fun (q : g = k) => hk (by rw [← q]; exact hg))]; rfl) (Nat.le_refl _)
/-- A free page is taken. -/
theorem Ch.take {P : Nat → List UInt8} {n g : Nat} {G : List Nat} (h : Ch P n g (g :: G)) (l : List UInt8) : 2 ≤ g ∧ g ≤ n ∧ isFree (P g) = true ∧ Ch (upP P 1 l) n (linkV (P g)) G := by
  cases h with
  | cons h2 hn hf h => exact ⟨h2, hn, hf, h.same (fun q hq => upP_off _ _ (by have := h.all q hq; omega)) (Nat.le_refl _)⟩
end Go.Proofs.YtenfjbcigkolaaaGreat

namespace Go.Proofs.YtenfjbcigkolaaaGreat
variable {sv : Value}
open Go.ChangeShapes Go.WideShapes Go.ChangeAt Go.RowKit Go.Maps
set_option linter.unusedVariables false

theorem mt_bad1 (w : World) (A M C B L n t pm : Nat) {P : Nat → List UInt8} {K : Nat} {b : Bool} (ht : Tr sv w t pm n P K b) (hL : L < 4294967296) (hm : MtB w A M C B L 1 n t) (h0 : L ≠ 0) (hok : ¬ ((1 ≠ n ∧ 2 ≤ L ∧ L ≤ n) ∧ isFree (P L) = true)) :
    Calls Tryz.prog 136 #[.pointer (some ⟨A, 0, none⟩), .pointer (some ⟨M, 0, none⟩), .pointer (some ⟨C, 0, none⟩), .pointer (some ⟨B, 0, none⟩)] w fun e w' => e = .returned (.tuple #[.agg #[.int .i64 0, .int .u32 0], .int .i64 8]) ∧ Only [A, M] w w' := by
  by_cases hf : 1 = n ∨ ¬ (2 ≤ L ∧ L ≤ n)
  · exact (mt_far w A M C B L 1 n t hL h0 hm hf).mono fun e w' hh => ⟨hh.1, Only.of_below hh.2⟩
  · have h1 : 1 ≠ n ∧ 2 ≤ L ∧ L ≤ n := by omega
    have hfr : isFree (P L) = false := by
      cases hq : isFree (P L) with
      | false => rfl
      | true => exact absurd ⟨h1, hq⟩ hok
    exact (mt_meet w A M C B L 1 n t pm ht hL hm h1.1 h1.2.1 h1.2.2 (by omega)).mono fun e w' hh => ⟨(hh.2 hfr).1, (hh.2 hfr).2.2⟩
set_option maxRecDepth 20000 in
set_option maxHeartbeats 2000000 in
theorem take_bad (w : World) (t pm n : Nat) {P : Nat → List UInt8} {K L : Nat} {N : Nat → Nat} (h : Ld sv w t pm n P K L N) (h0 : L ≠ 0) (hok : ¬ ((1 ≠ n ∧ 2 ≤ L ∧ L ≤ n) ∧ isFree (P L) = true)) : Calls Tryz.prog 38 #[.pointer (some ⟨t, 0, none⟩)] w fun e w' => e = .returned (.tuple #[.int .i64 0, .int .i64 8]) ∧ Below w.heap.size w w' := by
  have HF := hide (firstToChange_e w _ _ 0 h.fc)
  have HI := hide (sizeF L N)
  have HSz := hide (size_fst L 0 N zN)
  have HOn := hide (fstL_one L N)
  have HFn := hide fst_new
  have HMe := hide (fun X (hb : Below w.heap.size w X) => meeting_e X t pm n (h.tr.later hb) L)
  have HMt := hide (fun X A M C B (hb : Below w.heap.size w X) (hm : MtB X A M C B L 1 n t) => mt_bad1 X A M C B L n t pm (h.tr.later hb) h.lk hm h0 hok)
  have HIr := hide infoFr
  have HFr := hide (fun V => Blk.new V #[.int .i64 0, .int .u32 0] 155)
  clear h hok
  go_enter Tryz.func38, Tryz.ntmps38
  go_wp2_with (first
    | (go_at_call 95; (with_reducible refine Calls.mono HF.out ?_); rintro e w4 ⟨rfl, hb⟩; have HB4 := hide (below_trans hb (below_alloc w4 (.cells #[.int .u32 0, .int .u32 0, .int .u32 0, .int .u32 0, .int .u32 0, .int .u32 0, .int .u32 0, .int .u32 0, .int .u32 0] 151))); have HF4 := hide (HFn.out w4); have HS4 := hide hb.size; clear hb)
    | ((with_reducible refine atSt 151 ?_); refine wp_storeB (c := (fstL L N).toArray) HI.out HSz.out HOn.out HF4.out _ _ (by rfl) (by rfl) (by rfl) (by rfl) ?_; intro W5 hb5 ho5; have c5 := FstB.link hb5; have HB5 := hide (below_only1 HB4.out ho5 HS4.out); clear hb5 ho5)
    | (go_at_call 96; (with_reducible refine Calls.mono (HMe.out _ HB5.out) ?_); rintro e w6 ⟨A, M, C, B, rfl, hm, hb, hA, hM, _⟩; have HM6 := hide hm; have HA6 := hide (And.intro hA hM); have HB6 := hide (below_trans HB5.out hb); clear hm hb hA hM)
    | (go_at_call 136; (with_reducible refine Calls.mono (HMt.out _ _ _ _ _ HB6.out HM6.out) ?_); rintro e w7 ⟨rfl, ho⟩; have hb := below_only HB6.out ho (two_in (Nat.le_trans HB5.out.size HA6.out.1) (Nat.le_trans HB5.out.size HA6.out.2)); have HS7 := hide hb.size; have HB7 := hide (below_trans hb (below_alloc w7 (.cells #[.int .i64 0, .int .u32 0] 155))); clear hb ho)
    | ((with_reducible refine atSt 155 ?_); refine wp_storeB (c := #[.int .i64 0, .int .u32 0]) (z := #[.int .i64 0, .int .u32 0]) HIr.out rfl (fr_one _ _) (HFr.out _) _ _ (by rfl) (by rfl) (by rfl) (by rfl) ?_; intro W8 hb8 ho8; have HB8 := hide (below_only1 HB7.out ho8 HS7.out); clear hb8 ho8))
  go_ret2
  exact ⟨rfl, HB8.out⟩
end Go.Proofs.YtenfjbcigkolaaaGreat
