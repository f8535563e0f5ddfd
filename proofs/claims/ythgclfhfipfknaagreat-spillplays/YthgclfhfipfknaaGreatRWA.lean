/- A transaction that writes, on a disk of its own. -/
/- A transaction that writes, on a disk of its own. -/
/- The walk of SpillRefuses. -/
/- Rows of numbers and of pages that came in as arguments. -/
import Derived.Test.YthgclfhfipfknaaGreatQA
import Derived.Test.YthgclfhfipfknaaGreatPLG
import Derived.Test.YthgclfhfipfknaaGreatTK
import Derived.Test.YthgclfhfipfknaaGreatRows
import Derived.SizedLaws
import Derived.Deep.Slices
import Derived.Carry
namespace Go.Proofs.YthgclfhfipfknaaGreat
variable {sv : Value}
open Go.ChangeShapes Go.WideShapes Go.ChangeAt Go.RowKit Go.Maps
set_option linter.unusedVariables false

def zPg : Nat → List UInt8 := fun _ => zs
theorem zPg_len : ∀ k, (zPg k).length = 256 := fun _ => zs_length
theorem mayB0 : MayB h0 0 := ⟨by decide, by decide, by decide⟩
theorem mayB1 : MayB h0 1 := ⟨by decide, by decide, by decide⟩
theorem mayW0 : tkE (tkH h0 ((0 : Nat) : Int) 1) ((0 : Nat) : Int) 2 = 0 := by decide
/-- A transaction that was begun, as one in memory. -/
theorem BgW.tr {w w' : World} {j d mb l : Nat} {room : Int} {L : List Int} {c t : Nat} (h : BgW w w' j d mb l room L c t) : ∃ pm, Tr (.slice none 0 0) w' t pm 0 zPg 0 false ∧ w.heap.size ≤ t ∧ w.heap.size ≤ pm ∧ Only [l] w w' ∧ Gr w' j d mb l room (tkH L (c : Int) 1) ∧ TxB w' t j (c : Int) 0 (some pm) (.slice none 0 0) false false ∧ mb ≠ pm ∧ (∀ P, MpI w' pm 0 0 P) := by
  obtain ⟨pm, h1, h2, h3, h4, h5, h6, h7⟩ := h
  exact ⟨pm, ⟨⟨j, d, mb, l, room, _, _, h1, h2, h4⟩, h3 zPg, zPg_len, by omega⟩, h6, h7, h5, h1, h2, h4.1, h3⟩
/-- What open leaves. -/
def OpT (w w' : World) (t : Nat) : Prop := ∃ pm, Tr (.slice none 0 0) w' t pm 0 zPg 0 true ∧ Below w.heap.size w w' ∧ w.heap.size ≤ t ∧ w.heap.size ≤ pm
/-- What open of a database that is to be laid leaves. -/
def OpL (w w' : World) (t : Nat) : Prop := ∃ pm, Ld (.slice none 0 0) w' t pm 1 (upP zPg 1 (firstL 0 zN)) 1 0 zN ∧ Below w.heap.size w w' ∧ w.heap.size ≤ t ∧ w.heap.size ≤ pm
theorem opt_mk {w w2 w3 w4 : World} {d mb t : Nat} {room : Int} {j l pm : Nat} (ho : Below w.heap.size w w2) (hl : w.heap.size ≤ l) (hb : BgW w2 w3 j d mb l room h0 0 t) (hT : TxB w3 t j ((0 : Nat) : Int) 0 (some pm) (.slice none 0 0) false false) (hR : Gr w4 j d mb l room (tkH (tkH h0 ((0 : Nat) : Int) 1) ((0 : Nat) : Int) 2) ∧ TxB w4 t j ((0 : Nat) : Int) 0 (some pm) (.slice none 0 0) true false ∧ Only [l, t] w3 w4) : OpT w w4 t := by
  obtain ⟨pm', h1, h2, h3, h4, h5, h6, h7⟩ := hb
  obtain ⟨g1, g2, g3⟩ := hR
  obtain rfl : pm = pm' := by
    have := (tx4 hT).symm.trans (tx4 h2)
    simpa using this
  have hs := ho.size
  have n1 : pm ≠ l := by
    obtain ⟨D, ⟨es, cl, he, _⟩, _⟩ := h3 zPg
    exact Ne.symm (blk_map h1.lk he)
  have n2 : pm ≠ t := by
    obtain ⟨D, ⟨es, cl, he, _⟩, _⟩ := h3 zPg
    exact Ne.symm (blk_map h2 he)
  refine ⟨pm, ⟨⟨j, d, mb, l, room, _, _, g1, g2, h4⟩, ?_, zPg_len, by omega⟩, ?_, by omega, by omega⟩
  · obtain ⟨D, ⟨es, cl, he, q1, q2, q3⟩, q4, q5⟩ := h3 zPg
    exact ⟨D, ⟨es, cl, g3.blk he (by simp; omega), q1, q2, q3⟩, q4, q5⟩
  · exact below_only (below_only1 ho h5 hl) g3 (fun k hk => by simp at hk; omega)
end Go.Proofs.YthgclfhfipfknaaGreat

namespace Go.Proofs.YthgclfhfipfknaaGreat
variable {sv : Value}
open Go.ChangeShapes Go.WideShapes Go.ChangeAt Go.RowKit Go.Maps
set_option linter.unusedVariables false

set_option maxRecDepth 20000 in
set_option maxHeartbeats 2000000 in
theorem plopen_e (w : World) : Calls Tryz.prog 8 #[.bool false] w fun e w' => ∃ t, e = .returned (.tuple #[.pointer (some ⟨t, 0, none⟩), .bool true]) ∧ OpT w w' t := by
  have HD := hide (newDisk_e w 4000000 (by decide))
  have HO := hide openJ_e
  have HBg := hide (fun V s j d mb l room (hg : Gr V j d mb l room h0) hS => begin_e V s j d mb l room h0 hg 0 mayB0 hS)
  have HW := hide (fun V t j d mb l room pm (hg : Gr V j d mb l room (tkH h0 ((0 : Nat) : Int) 1)) (ht : TxB V t j ((0 : Nat) : Int) 0 (some pm) (.slice none 0 0) false false) => write_e V t j d mb l room _ hg ht mayW0)
  go_enter Tryz.func8, Tryz.ntmps8
  go_wp2_with (first
    | (go_at_call 23; (with_reducible refine Calls.mono HD.out ?_); rintro e w1 ⟨rfl, hde, hb⟩; have HD1 := hide hde; have HB1 := hide hb; clear hde hb)
    | (go_at_call 22; (with_reducible refine Calls.mono (HO.out _ _ _ _ HD1.out) ?_); rintro e w2 ⟨s, rfl, j, l, hs, hg, hb, hl⟩; have HS2 := hide hs; have HG2 := hide hg; have HB2 := hide (below_trans HB1.out hb); have HL2 := hide (Nat.le_trans HB1.out.size hl); clear hs hg hb hl)
    | (go_at_call 24; (with_reducible refine Calls.mono (HBg.out _ _ _ _ _ _ _ HG2.out HS2.out) ?_); rintro e w3 ⟨t, rfl, hb⟩; have HBg3 := hide hb; obtain ⟨pm, h1, h2, _⟩ := hb; have HG3 := hide h1; have HT3 := hide h2; clear h1 h2)
    | (go_at_call 34; (with_reducible refine Calls.mono (HW.out _ _ _ _ _ _ _ _ HG3.out HT3.out) ?_); rintro e w4 ⟨rfl, g1, g2, g3⟩; have HR4 := hide (And.intro g1 (And.intro g2 g3)); clear g1 g2 g3))
  go_ret2
  exact ⟨t, rfl, opt_mk HB2.out HL2.out HBg3.out HT3.out HR4.out⟩
set_option maxRecDepth 20000 in
set_option maxHeartbeats 2000000 in
theorem plopen_l (w : World) : Calls Tryz.prog 8 #[.bool true] w fun e w' => ∃ t, e = .returned (.tuple #[.pointer (some ⟨t, 0, none⟩), .bool true]) ∧ OpL w w' t := by
  have HD := hide (newDisk_e w 4000000 (by decide))
  have HO := hide openJ_e
  have HBg := hide (fun V s j d mb l room (hg : Gr V j d mb l room h0) hS => begin_e V s j d mb l room h0 hg 0 mayB0 hS)
  have HW := hide (fun V t j d mb l room pm (hg : Gr V j d mb l room (tkH h0 ((0 : Nat) : Int) 1)) (ht : TxB V t j ((0 : Nat) : Int) 0 (some pm) (.slice none 0 0) false false) => write_e V t j d mb l room _ hg ht mayW0)
  have HOp := hide (fun (w2 w3 w4 : World) (d mb t : Nat) (room : Int) (j l pm : Nat) => @opt_mk w w2 w3 w4 d mb t room j l pm)
  have HLy := hide (fun V t pm (h : Tr (.slice none 0 0) V t pm 0 zPg 0 true) => lay_ok V t pm h (by omega))
  go_enter Tryz.func8, Tryz.ntmps8
  go_wp2_with (first
    | (go_at_call 23; (with_reducible refine Calls.mono HD.out ?_); rintro e w1 ⟨rfl, hde, hb⟩; have HD1 := hide hde; have HB1 := hide hb; clear hde hb)
    | (go_at_call 22; (with_reducible refine Calls.mono (HO.out _ _ _ _ HD1.out) ?_); rintro e w2 ⟨s, rfl, j, l, hs, hg, hb, hl⟩; have HS2 := hide hs; have HG2 := hide hg; have HB2 := hide (below_trans HB1.out hb); have HL2 := hide (Nat.le_trans HB1.out.size hl); clear hs hg hb hl)
    | (go_at_call 24; (with_reducible refine Calls.mono (HBg.out _ _ _ _ _ _ _ HG2.out HS2.out) ?_); rintro e w3 ⟨t, rfl, hb⟩; have HBg3 := hide hb; obtain ⟨pm, h1, h2, _⟩ := hb; have HG3 := hide h1; have HT3 := hide h2; clear h1 h2)
    | (go_at_call 34; (with_reducible refine Calls.mono (HW.out _ _ _ _ _ _ _ _ HG3.out HT3.out) ?_); rintro e w4 ⟨rfl, g1, g2, g3⟩; obtain ⟨pm4, k1, k2, k3, k4⟩ := HOp.out _ _ _ _ _ _ _ _ _ _ HB2.out HL2.out HBg3.out HT3.out (And.intro g1 (And.intro g2 g3)); have HK4 := hide k1; have HB4 := hide k2; have HP4 := hide (And.intro k3 k4); clear g1 g2 g3 k1 k2 k3 k4)
    | (go_at_call 35; (with_reducible refine Calls.mono (HLy.out _ _ _ HK4.out) ?_); rintro e w5 ⟨rfl, g1, g2⟩; have HR5 := hide (And.intro g1 g2); clear g1 g2))
  go_ret2
  exact ⟨t, rfl, pm4, ⟨HR5.out.1, Nat.le_refl _, fst_of rfl (by omega) (fun i => by unfold zN; omega), by omega, fun i => by unfold zN; omega⟩, below_only HB4.out HR5.out.2 (fun k hk => by have := HP4.out; simp at hk; omega), HP4.out⟩
end Go.Proofs.YthgclfhfipfknaaGreat

namespace Go.Proofs.YthgclfhfipfknaaGreat
variable {sv : Value}
open Go.ChangeShapes Go.WideShapes Go.ChangeAt Go.RowKit Go.Maps
set_option linter.unusedVariables false

def abcS : ByteArray := ⟨#[97, 98, 99]⟩
def stubS : ByteArray := ⟨#[3, 97, 98, 99]⟩
def moreS : ByteArray := ⟨#[3, 97, 98, 99, 109, 111, 114, 101]⟩
def cutS : ByteArray := ⟨#[5, 97, 98]⟩
theorem stub_is : (⟨(Rec.putL abcS.size).toArray⟩ ++ abcS : ByteArray) = stubS := ByteArray.ext (by decide)
theorem more_is : (stubS ++ ⟨#[109, 111, 114, 101]⟩ : ByteArray) = moreS := ByteArray.ext (by decide)
theorem abc_is : moreS.extract 1 (3 + 1) = abcS := ByteArray.ext (by decide)
theorem more_u : Rec.vrdU moreS.data.toList = 3 := by decide
theorem more_n : Rec.vrdN moreS.data.toList = 1 := by decide
theorem cut_u : Rec.vrdU cutS.data.toList = 5 := by decide
theorem cut_n : Rec.vrdN cutS.data.toList = 1 := by decide
set_option maxRecDepth 20000 in
set_option maxHeartbeats 2000000 in
theorem pawake_e (w : World) : Calls Tryz.prog 7 #[] w fun e w' => e = .returned (.bool true) ∧ Below w.heap.size w w' := by
  have HO := hide (plopen_l w)
  have HPu := hide (fun V t pm m P K (h : Tr (.slice none 0 0) V t pm m P K true) => put_short V t pm m h abcS (by decide))
  rw [stub_is] at HPu
  have HGt := hide (fun V t pm m P K (h : Tr (.slice none 0 0) V t pm m P K true) => pget_e V _ moreS abcS (3 + 1 : Nat) none 0 0 0 (find_short V t pm m h moreS 3 (by decide) more_u more_n (by decide) (by decide) abcS abc_is rfl))
  have HGc := hide (fun V t pm m P K (h : Tr (.slice none 0 0) V t pm m P K true) => pget_e V _ cutS _ _ none 0 0 8 (find_cut V t pm m h cutS 5 (by decide) cut_u cut_n (by decide)))
  have hcat : ∀ V, (Op.stringOp BinOp.add stubS ⟨#[109, 111, 114, 101]⟩).run Tryz.prog V = .ok (.string moreS) V := fun V => by
    rw [← more_is]
    exact run_string_add_sum V _ _ (by decide)
  unfold stubS moreS at hcat
  unfold abcS stubS at HPu
  unfold moreS abcS at HGt
  unfold cutS at HGc
  go_enter Tryz.func7, Tryz.ntmps7
  go_wp2_with (first
    | (go_at_call 8; (with_reducible refine Calls.mono HO.out ?_); rintro e w1 ⟨t, rfl, pm, h1, h2, h3, h4⟩; have HT1 := hide h1.tr; have HB1 := hide h2; clear h1 h2 h3 h4)
    | (go_at_call 12; (with_reducible refine Calls.mono (HPu.out _ _ _ _ _ _ HT1.out) ?_); rintro e w2 ⟨rfl, hb⟩; have HT2 := hide (HT1.out.later hb); have HB2 := hide (below_trans HB1.out hb); clear hb)
    | (go_at_call 19; (with_reducible refine Calls.mono (HGt.out _ _ _ _ _ _ HT2.out) ?_); rintro e w3 ⟨rfl, hb⟩; have HT3 := hide (HT2.out.later hb); have HB3 := hide (below_trans HB2.out hb); clear hb)
    | (go_at_call 19; (with_reducible refine Calls.mono (HGc.out _ _ _ _ _ _ HT3.out) ?_); rintro e w4 ⟨rfl, hb⟩; have HB4 := hide (below_trans HB3.out hb); clear hb))
  go_ret
  exact ⟨rfl, HB4.out⟩
end Go.Proofs.YthgclfhfipfknaaGreat

namespace Go.Proofs.YthgclfhfipfknaaGreat
open Go.ChangeShapes Go.WideShapes Go.ChangeAt Go.RowKit Go.Deep
set_option linter.unusedVariables false

/-- A row of numbers that came in. -/
def IntP (w : World) (p : Option Addr) (len : Nat) (C : Nat → Int) : Prop := 0 < len → ∃ b o, p = some ⟨b, o, none⟩ ∧ ∀ i, i < len → w.cell? ⟨b, o + i, none⟩ = some (.int .i64 (C i))
theorem cell_later1 {w w' : World} (hb : Below w.heap.size w w') {b k : Nat} {v : Value} (h : w.cell? ⟨b, k, none⟩ = some v) : w'.cell? ⟨b, k, none⟩ = some v := cell_later hb h
theorem IntP.later {w w' : World} {p : Option Addr} {len : Nat} {C : Nat → Int} (h : IntP w p len C) (hb : Below w.heap.size w w') : IntP w' p len C := fun h0 => let ⟨b, o, e, g⟩ := h h0; ⟨b, o, e, fun i hi => cell_later1 hb (g i hi)⟩
theorem cellsInt : Tryz.prog.cellsOf 3 = 1 := by kernel_rfl
theorem one_ofR {α : Type} {l : List α} (h : l.length = 1) : ∃ a, l = [a] := by
  match l, h with
  | [a], _ => exact ⟨a, rfl⟩
set_option maxRecDepth 100000 in
theorem open_intsR {H : Type} {enc : TypeId × Value → H} {w : World} {fuel : Nat} {cs : List Value} {x : DataW H × List MemPlace} (h : DataW.trod enc Tryz.prog w 0 (fun _ => true) true fuel 27 cs = some x) :
    ∃ (p : Option Addr) (len cap : Nat) (A : Nat → Int), cs = [.slice p len cap] ∧ IntP w p len A := by
  rcases open_slice Tryz.underlying27 h with h0 | ⟨a, len, cap, m, n, D, Pl, rfl, hb, hl, hm, hmm, rfl, hx⟩
  · exact ⟨none, 0, 0, fun _ => 0, h0.1, fun h => by omega⟩
  simp only [if_true] at hmm
  by_cases h0 : len = 0
  · subst h0; exact ⟨some a, 0, cap, fun _ => 0, rfl, fun h => by omega⟩
  have each : ∀ i, i < m → ∃ q : Int, w.cell? (a.add i) = some (.int .i64 q) := by
    intro i hi
    obtain ⟨cs', h1, h2⟩ := hx i hi
    rw [cellsInt] at h1
    obtain ⟨_, hlen, hcell⟩ := World.cells?_some h1
    obtain ⟨v0, rfl⟩ := one_ofR hlen
    obtain ⟨p, e0, _, hwf⟩ := DataW.trod_int Tryz.underlying3 h2
    simp at e0
    subst e0
    have c0 := hcell 0 (by omega)
    rw [add_add] at c0
    exact ⟨p, by simpa using c0⟩
  obtain ⟨q, hq⟩ := choose_lt each
  obtain ⟨b, o, spot⟩ := a
  have hspot : spot = none := by simpa [Addr.add] using World.cell?_spot (hq 0 (by omega))
  subst hspot
  refine ⟨some ⟨b, o, none⟩, len, cap, q, rfl, fun _ => ⟨b, o, rfl, fun j hj => ?_⟩⟩
  have c0 := hq j (by omega)
  rw [add_plain] at c0
  exact c0
end Go.Proofs.YthgclfhfipfknaaGreat
