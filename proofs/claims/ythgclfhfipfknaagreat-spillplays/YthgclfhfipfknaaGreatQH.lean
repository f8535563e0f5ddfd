/- Package space: a page is given back. -/
/- Package space: Give. -/
/- Package space: which pages are free, in plain words. -/
import Derived.Test.YthgclfhfipfknaaGreatQC
import Derived.Test.YthgclfhfipfknaaGreatOHP
namespace Go.Proofs.YthgclfhfipfknaaGreat
variable {sv : Value}
open Go.ChangeShapes Go.WideShapes Go.ChangeAt Go.RowKit Go.Maps
set_option linter.unusedVariables false

/-- What lift makes of the first free page's number, of the pages, of how often was put. -/
def lfL (L : Nat) : Option (Nat × Nat) → Nat
  | some (0, x) => x
  | _ => L
def lfP (P : Nat → List UInt8) : Option (Nat × Nat) → Nat → List UInt8
  | some (l + 1, x) => upP P (l + 1) (freeL x)
  | _ => P
def lfK (K : Nat) : Option (Nat × Nat) → Nat
  | some (_ + 1, _) => K + 1
  | _ => K
theorem lfw_out {w w' : World} {t pm n : Nat} {P : Nat → List UInt8} {K F L : Nat} {N : Nat → Nat} {R : Option (Nat × Nat)} (h : LfW sv w w' t pm n P K F N R) (ht : Tr sv w t pm n P K true) (hF : FstB w F L N) (h1 : t < F) (h2 : pm < F) :
    Tr sv w' t pm n (lfP P R) (lfK K R) true ∧ FstB w' F (lfL L R) N ∧ Only [t, pm, F] w w' := by
  match R, h with
  | none, h => exact ⟨ht.later h, Blk.later hF h, Only.of_below h⟩
  | some (0, x), h => exact ⟨ht.only h.1 (fun b hb => ⟨_, _, by simp at hb; subst hb; exact hF, .inr (.inr rfl)⟩), h.2, h.1.mono (fun j hj => by simp at hj; simp [hj])⟩
  | some (l + 1, x), h => exact ⟨h.1, Blk.only hF h.2 (not_lt2 h1 h2), h.2.mono (fun j hj => by simp at hj; rcases hj with rfl | rfl <;> simp)⟩
theorem liftR_lt {P : Nat → List UInt8} {n k : Nat} : ∀ {f L last l x : Nat}, liftR P n k f L last = some (l, x) → x < 4294967296
  | 0, _, _, _, _, h => by simp [liftR] at h
  | f + 1, L, last, l, x, h => by
    rw [liftR] at h
    split at h
    · split at h
      · simp only [Option.some.injEq, Prod.mk.injEq] at h
        rw [← h.2]; exact linkV_lt _
      · exact liftR_lt h
    · cases h
/-- Where lift finds page k. -/
noncomputable def lfR (P : Nat → List UInt8) (n k L : Nat) : Option (Nat × Nat) := if isFree (P k) = true then liftR P n k (n - 1) L 0 else none
theorem lfL_lt {P : Nat → List UInt8} {n k L : Nat} (hL : L < 4294967296) : lfL L (lfR P n k L) < 4294967296 := by
  unfold lfR
  split
  · rcases h : liftR P n k (n - 1) L 0 with _ | ⟨_ | l, x⟩
    · exact hL
    · exact liftR_lt h
    · exact hL
  · exact hL
theorem lfK_le (K : Nat) (R : Option (Nat × Nat)) : lfK K R ≤ K + 1 := by
  rcases R with _ | ⟨_ | l, x⟩ <;> simp [lfK]
/-- The pages behind Give. -/
noncomputable def gvP (P : Nat → List UInt8) (n k L : Nat) (N : Nat → Nat) : Nat → List UInt8 := upP (upP (lfP P (lfR P n k L)) k (freeL (lfL L (lfR P n k L)))) 1 (firstL k N)
end Go.Proofs.YthgclfhfipfknaaGreat

namespace Go.Proofs.YthgclfhfipfknaaGreat
variable {sv : Value}
open Go.ChangeShapes Go.WideShapes Go.ChangeAt Go.RowKit Go.Maps
set_option linter.unusedVariables false

theorem only3 {w0 w a b : World} {t pm F : Nat} (h : Below w0.heap.size w0 w) (ho : Only [t, pm, F] w a) (hF : w0.heap.size ≤ F) : Only [t, pm] w0 a :=
  ⟨ho.os.trans h.os, ho.tape.trans h.tape, ho.output.trans h.output, Nat.le_trans h.size ho.size, fun k hk hn => (ho.block k (Nat.lt_of_lt_of_le hk h.size) (by simp at hn ⊢; omega)).trans (h.block k hk)⟩
theorem only_set {w a : World} {t pm F : Nat} (h : Only [t, pm] w a) (hF : w.heap.size ≤ F) (v : Value) : Only [t, pm] w (a.setCell ⟨F, 0, none⟩ v) :=
  h.andThen (Only.setCell a ⟨F, 0, none⟩ v) (fun j hj => .inr (by simp at hj; omega))
theorem tr_set {w : World} {t pm n : Nat} {P : Nat → List UInt8} {K F L : Nat} {N : Nat → Nat} {b : Bool} (h : Tr sv w t pm n P K b) (hF : FstB w F L N) (v : Value) : Tr sv (w.setCell ⟨F, 0, none⟩ v) t pm n P K b :=
  h.only (Only.setCell w ⟨F, 0, none⟩ v) (fun j hj => ⟨_, _, by simp at hj; subst hj; exact hF, .inr (.inr rfl)⟩)
set_option maxRecDepth 20000 in
set_option maxHeartbeats 4000000 in
theorem give_e (w : World) (t pm n : Nat) {P : Nat → List UInt8} {K L : Nat} {N : Nat → Nat} (h : Ld sv w t pm n P K L N) (hK : K ≤ 99998) (k : Nat) (h2 : 2 ≤ k) (h3 : k ≤ n) : Calls Tryz.prog 42 #[.pointer (some ⟨t, 0, none⟩), .int .i64 (k : Int)] w fun e w' => e = .returned (.int .i64 0) ∧ Tr sv w' t pm n (gvP P n k L N) (lfK K (lfR P n k L) + 2) true ∧ Only [t, pm] w w' := by
  have HF := hide (firstToChange_e w _ _ 0 h.fc)
  have HI := hide (sizeF L N)
  have HSz := hide (size_fst L 0 N zN)
  have HOn := hide (fstL_one L N)
  have HFn := hide fst_new
  have HCt := hide (fun X (hb : Below w.heap.size w X) => count_e X t pm n (h.tr.later hb))
  have HMb := hide (fun V => mayBeFree_e V (k : Int) (n : Int))
  rw [show mbF (k : Int) (n : Int) = true by unfold mbF; simp; omega] at HMb
  have hlt := tr_lt h.tr
  have HLt := hide hlt
  have hfew := h.tr.few
  have hKl := lfK_le K (lfR P n k L)
  have HLf := hide (fun X F (hb : Below w.heap.size w X) (hwF : w.heap.size ≤ F) (hF : FstB X F L N) => (lift_e X t pm n F L k (h.tr.later hb) hF h.lk (by omega) h2 h3 (lfR P n k L) rfl).mono (fun e w' hh => (And.intro hh.1 (lfw_out hh.2 (h.tr.later hb) hF (by omega) (by omega)) : e = .returned (.int .i64 0) ∧ Tr sv w' t pm n (lfP P (lfR P n k L)) (lfK K (lfR P n k L)) true ∧ FstB w' F (lfL L (lfR P n k L)) N ∧ Only [t, pm, F] X w')))
  have hL1 := lfL_lt (P := P) (n := n) (k := k) h.lk
  unfold gvP
  generalize lfL L (lfR P n k L) = L1 at *
  generalize lfP P (lfR P n k L) = P1 at *
  generalize lfK K (lfR P n k L) = K1 at *
  have HFp := hide (fun V => freePage_e V L1 hL1)
  have HPt := hide (fun V (ht : Tr sv V t pm n P1 K1 true) => put_e V _ (k : Int) (freeL L1) (freeL_length L1) 0 _ (.inn (k := k) ht (by omega) (by omega) (by omega) (by omega)))
  have HPu := hide (fun V (ht : Tr sv V t pm (max n k) (upP P1 k (freeL L1)) (K1 + 1) true) => sput_e V _ k (by omega) N h.nm 0 _ (.inn (k := 1) ht (Nat.le_refl _) (by omega) (by omega) (by omega)))
  rw [show max n k = n by omega] at HPt HPu
  rw [show max n 1 = n by omega] at HPu
  have HI2 := hide (sizeF k N)
  have hwk : IntKind.u32.wrap (k : Int) = (k : Int) := by rw [IntKind.wrap_u32]; omega
  clear h hlt hfew hKl hL1
  go_enter Tryz.func42, Tryz.ntmps42
  go_wp2_with (first
    | (go_at_call 113; (with_reducible refine Calls.mono HF.out ?_); rintro e w4 ⟨rfl, hb⟩; have HB4 := hide (below_trans hb (below_alloc w4 (.cells #[.int .u32 0, .int .u32 0, .int .u32 0, .int .u32 0, .int .u32 0, .int .u32 0, .int .u32 0, .int .u32 0, .int .u32 0] 105))); have HF4 := hide (HFn.out w4); have HS4 := hide hb.size; clear hb)
    | ((with_reducible refine atSt 105 ?_); refine wp_storeB (c := (fstL L N).toArray) HI.out HSz.out HOn.out HF4.out _ _ (by rfl) (by rfl) (by rfl) (by rfl) ?_; intro W5 hb5 ho5; have HF5 := hide hb5; have HB5 := hide (below_only1 HB4.out ho5 HS4.out); clear hb5 ho5)
    | (go_at_call 18; (with_reducible refine Calls.mono (HCt.out _ HB5.out) ?_); rintro e w6 ⟨rfl, hb⟩; have HF6 := hide (Blk.later HF5.out hb); have HB6 := hide (below_trans HB5.out hb); clear hb)
    | (go_at_call 114; (with_reducible refine Calls.mono (HMb.out _) ?_); rintro e w7 ⟨rfl, rfl⟩)
    | (go_at_call 115; (with_reducible refine Calls.mono (HLf.out _ _ HB6.out HS4.out HF6.out) ?_); rintro e w8 ⟨rfl, ht, hf, ho⟩; have c8 := FstB.link hf; have HT8 := hide ht; have HF8 := hide hf; have HO8 := hide (only3 (b := w8) HB6.out ho HS4.out); clear ht hf ho)
    | (go_at_call 116; (with_reducible refine Calls.mono (HFp.out _) ?_); rintro e w9 ⟨rfl, hb⟩; have HT9 := hide (HT8.out.later hb); have HF9 := hide (Blk.later HF8.out hb); have HO9 := hide (HO8.out.then_below hb); clear hb)
    | (go_at_call 20; (with_reducible refine Calls.mono (HPt.out _ HT9.out) ?_); rintro e w10 ⟨rfl, ht, ho⟩; have hf := Blk.only HF9.out ho (not_lt2 (Nat.lt_of_lt_of_le HLt.out.1 HS4.out) (Nat.lt_of_lt_of_le HLt.out.2 HS4.out)); have c10 := FstB.link hf; have f10 := Blk.frozen hf 0; have HF10 := hide (fst_link hf k); have HT10 := hide (tr_set ht hf (.int .u32 (k : Int))); have HO10 := hide (only_set (HO9.out.trans ho) HS4.out (.int .u32 (k : Int))); clear ht hf ho c8)
    | ((with_reducible refine atLd 105 ?_); refine wp_loadB (c := (fstL k N).toArray) HI2.out uF HF10.out _ (by rfl) (by rfl) (by rfl) ?_)
    | (go_at_call 96; (with_reducible refine Calls.mono (HPu.out _ HT10.out) ?_); rintro e w11 ⟨rfl, ht, ho⟩; have HT11 := hide ht; have HO11 := hide (HO10.out.trans ho); clear ht ho))
  go_ret
  exact ⟨rfl, HT11.out, HO11.out⟩
end Go.Proofs.YthgclfhfipfknaaGreat

namespace Go.Proofs.YthgclfhfipfknaaGreat
open Go.ChangeShapes Go.WideShapes Go.ChangeAt Go.RowKit Go.Maps
set_option linter.unusedVariables false

/-- The pages of a list are met one after another from a link on. -/
inductive Ch (P : Nat → List UInt8) (n : Nat) : Nat → List Nat → Prop where
  | nil : Ch P n 0 []
  | cons {g : Nat} {G : List Nat} (h2 : 2 ≤ g) (hn : g ≤ n) (hf : isFree (P g) = true) (h : Ch P n (linkV (P g)) G) : Ch P n g (g :: G)
theorem Ch.all {P : Nat → List UInt8} {n L : Nat} {G : List Nat} (h : Ch P n L G) : ∀ g ∈ G, 2 ≤ g ∧ g ≤ n := by
  induction h with
  | nil => simp
  | cons h2 hn hf h ih =>
    intro g hg
    rcases List.mem_cons.1 hg with rfl | hg
    · exact ⟨h2, hn⟩
    · exact ih g hg
theorem Ch.same {P Q : Nat → List UInt8} {n m L : Nat} {G : List Nat} (h : Ch P n L G) (hq : ∀ g ∈ G, Q g = P g) (hm : n ≤ m) : Ch Q m L G := by
  induction h with
  | nil => exact .nil
  | @cons g G h2 hn hf h ih =>
    have e := hq g (by simp)
    have := ih (fun g hg => hq g (by simp [hg]))
    rw [← e] at this hf
    exact .cons h2 (by omega) hf this
theorem Ch.lift {P : Nat → List UInt8} {n L k : Nat} {G : List Nat} (h : Ch P n L G) (hk : k ∉ G) : ∀ f last, liftR P n k f L last = none := by
  induction h with
  | nil =>
    intro f last
    cases f with
    | zero => rfl
    | succ f => rw [liftR, if_neg (by omega)]
  | @cons g G h2 hn hf h ih =>
    intro f last
    cases f with
    | zero => rfl
    | succ f =>
      rw [liftR, if_pos ⟨h2, hn, hf⟩, if_neg (fun e => hk (by simp [e]))]
      exact ih (fun hm => hk (by simp [hm])) f g
theorem Ch.free {P : Nat → List UInt8} {n L : Nat} {G : List Nat} (h : Ch P n L G) : ∀ f, G.length ≤ f → freeR P n f L = some G := by
  induction h with
  | nil => intro f _; exact freeR_end
  | @cons g G h2 hn hf h ih =>
    intro f hl
    cases f with
    | zero => simp at hl
    | succ f =>
      rw [freeR, if_neg (by omega), if_pos ⟨h2, hn, hf⟩, ih f (by simpa using hl)]
      rfl
theorem upP_at (P : Nat → List UInt8) (k : Nat) (l : List UInt8) : upP P k l k = l := by simp [upP]
theorem upP_off (P : Nat → List UInt8) {k g : Nat} (l : List UInt8) (h : g ≠ k) : upP P k l g = P g := by simp [upP, h]
theorem linkV_freeL (L : Nat) (hL : L < 4294967296) : linkV (freeL L) = L := by
  obtain ⟨h1, h2, h3, h4, h5, _⟩ := page_facts 0 L 0 noS (by omega) hL (fun i hi => by omega) (by simp [cat])
  exact (if_pos h1).trans h4
theorem isFree_freeL (L : Nat) (hL : L < 4294967296) : isFree (freeL L) = true := by
  unfold isFree
  rw [linkV_freeL L hL]
  simp
/-- A page is given. -/
theorem Ch.give {P : Nat → List UInt8} {n L k : Nat} {G : List Nat} {N : Nat → Nat} (h : Ch P n L G) (hL : L < 4294967296) (h2 : 2 ≤ k) (hn : k ≤ n) (hk : k ∉ G) : lfR P n k L = none ∧ Ch (gvP P n k L N) n k (k :: G) := by
  have hr : lfR P n k L = none := by
    unfold lfR
    split
    · exact h.lift hk _ _
    · rfl
  refine ⟨hr, ?_⟩
  unfold gvP
  rw [hr]
  have e : upP (upP (lfP P none) k (freeL (lfL L none))) 1 (firstL k N) k = freeL L := by rw [upP_off _ _ (by omega), upP_at]; rfl
  refine .cons h2 hn (by rw [e]; exact isFree_freeL L hL) ?_
  rw [e, linkV_freeL L hL]
  exact h.same (fun g hg => by rw [upP_off _ _ (by have := h.all g hg; omega), upP_off _ _ (fun (q : g = k) => hk (by rw [← q]; exact hg))]; rfl) (Nat.le_refl _)
/-- A free page is taken. -/
theorem Ch.take {P : Nat → List UInt8} {n g : Nat} {G : List Nat} (h : Ch P n g (g :: G)) (l : List UInt8) : 2 ≤ g ∧ g ≤ n ∧ isFree (P g) = true ∧ Ch (upP P 1 l) n (linkV (P g)) G := by
  cases h with
  | cons h2 hn hf h => exact ⟨h2, hn, hf, h.same (fun q hq => upP_off _ _ (by have := h.all q hq; omega)) (Nat.le_refl _)⟩
end Go.Proofs.YthgclfhfipfknaaGreat
