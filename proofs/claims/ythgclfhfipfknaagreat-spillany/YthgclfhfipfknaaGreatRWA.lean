/- The walk of SpillRefuses. -/
/- Rows of numbers and of pages that came in as arguments. -/
import Derived.Test.YthgclfhfipfknaaGreatPLG
import Derived.Test.YthgclfhfipfknaaGreatPLO
import Derived.Test.YthgclfhfipfknaaGreatTK
import Derived.Test.YthgclfhfipfknaaGreatRows
import Derived.SizedLaws
import Derived.Deep.Slices
import Derived.Carry
namespace Go.Proofs.YthgclfhfipfknaaGreat
variable {sv : Value}
open Go.ChangeShapes Go.WideShapes Go.ChangeAt Go.RowKit Go.Maps
set_option linter.unusedVariables false

def abcS : ByteArray := ⟨#[97, 98, 99]⟩
def stubS : ByteArray := ⟨#[3, 97, 98, 99]⟩
def moreS : ByteArray := ⟨#[3, 97, 98, 99, 109, 111, 114, 101]⟩
def cutS : ByteArray := ⟨#[5, 97, 98]⟩
theorem stub_is : (⟨(Rec.putL abcS.size).toArray⟩ ++ abcS : ByteArray) = stubS := ByteArray.ext (by decide)
theorem more_is : (stubS ++ ⟨#[109, 111, 114, 101]⟩ : ByteArray) = moreS := ByteArray.ext (by decide)
theorem abc_is : moreS.extract 1 (3 + 1) = abcS := ByteArray.ext (by decide)
theorem more_u : Rec.vrdU moreS.data.toList = 3 := by decide
theorem more_n : Rec.vrdN moreS.data.toList = 1 := by decide
theorem cut_u : Rec.vrdU cutS.data.toList = 5 := by decide
theorem cut_n : Rec.vrdN cutS.data.toList = 1 := by decide
set_option maxRecDepth 20000 in
set_option maxHeartbeats 2000000 in
theorem pawake_e (w : World) : Calls Tryz.prog 7 #[] w fun e w' => e = .returned (.bool true) ∧ Below w.heap.size w w' := by
  have HO := hide (plopen_l w)
  have HPu := hide (fun V t pm m P K (h : Tr (.slice none 0 0) V t pm m P K true) => put_short V t pm m h abcS (by decide))
  rw [stub_is] at HPu
  have HGt := hide (fun V t pm m P K (h : Tr (.slice none 0 0) V t pm m P K true) => pget_e V _ moreS abcS (3 + 1 : Nat) none 0 0 0 (find_short V t pm m h moreS 3 (by decide) more_u more_n (by decide) (by decide) abcS abc_is rfl))
  have HGc := hide (fun V t pm m P K (h : Tr (.slice none 0 0) V t pm m P K true) => pget_e V _ cutS _ _ none 0 0 8 (find_cut V t pm m h cutS 5 (by decide) cut_u cut_n (by decide)))
  have hcat : ∀ V, (Op.stringOp BinOp.add stubS ⟨#[109, 111, 114, 101]⟩).run Tryz.prog V = .ok (.string moreS) V := fun V => by
    rw [← more_is]
    exact run_string_add_sum V _ _ (by decide)
  unfold stubS moreS at hcat
  unfold abcS stubS at HPu
  unfold moreS abcS at HGt
  unfold cutS at HGc
  go_enter Tryz.func7, Tryz.ntmps7
  go_wp2_with (first
    | (go_at_call 8; (with_reducible refine Calls.mono HO.out ?_); rintro e w1 ⟨t, rfl, pm, h1, h2, h3, h4⟩; have HT1 := hide h1.tr; have HB1 := hide h2; clear h1 h2 h3 h4)
    | (go_at_call 12; (with_reducible refine Calls.mono (HPu.out _ _ _ _ _ _ HT1.out) ?_); rintro e w2 ⟨rfl, hb⟩; have HT2 := hide (HT1.out.later hb); have HB2 := hide (below_trans HB1.out hb); clear hb)
    | (go_at_call 19; (with_reducible refine Calls.mono (HGt.out _ _ _ _ _ _ HT2.out) ?_); rintro e w3 ⟨rfl, hb⟩; have HT3 := hide (HT2.out.later hb); have HB3 := hide (below_trans HB2.out hb); clear hb)
    | (go_at_call 19; (with_reducible refine Calls.mono (HGc.out _ _ _ _ _ _ HT3.out) ?_); rintro e w4 ⟨rfl, hb⟩; have HB4 := hide (below_trans HB3.out hb); clear hb))
  go_ret
  exact ⟨rfl, HB4.out⟩
end Go.Proofs.YthgclfhfipfknaaGreat

namespace Go.Proofs.YthgclfhfipfknaaGreat
open Go.ChangeShapes Go.WideShapes Go.ChangeAt Go.RowKit Go.Deep
set_option linter.unusedVariables false

/-- A row of numbers that came in. -/
def IntP (w : World) (p : Option Addr) (len : Nat) (C : Nat → Int) : Prop := 0 < len → ∃ b o, p = some ⟨b, o, none⟩ ∧ ∀ i, i < len → w.cell? ⟨b, o + i, none⟩ = some (.int .i64 (C i))
theorem cell_later1 {w w' : World} (hb : Below w.heap.size w w') {b k : Nat} {v : Value} (h : w.cell? ⟨b, k, none⟩ = some v) : w'.cell? ⟨b, k, none⟩ = some v := cell_later hb h
theorem IntP.later {w w' : World} {p : Option Addr} {len : Nat} {C : Nat → Int} (h : IntP w p len C) (hb : Below w.heap.size w w') : IntP w' p len C := fun h0 => let ⟨b, o, e, g⟩ := h h0; ⟨b, o, e, fun i hi => cell_later1 hb (g i hi)⟩
theorem cellsInt : Tryz.prog.cellsOf 3 = 1 := by kernel_rfl
theorem one_ofR {α : Type} {l : List α} (h : l.length = 1) : ∃ a, l = [a] := by
  match l, h with
  | [a], _ => exact ⟨a, rfl⟩
set_option maxRecDepth 100000 in
theorem open_intsR {H : Type} {enc : TypeId × Value → H} {w : World} {fuel : Nat} {cs : List Value} {x : DataW H × List MemPlace} (h : DataW.trod enc Tryz.prog w 0 (fun _ => true) true fuel 27 cs = some x) :
    ∃ (p : Option Addr) (len cap : Nat) (A : Nat → Int), cs = [.slice p len cap] ∧ IntP w p len A := by
  rcases open_slice Tryz.underlying27 h with h0 | ⟨a, len, cap, m, n, D, Pl, rfl, hb, hl, hm, hmm, rfl, hx⟩
  · exact ⟨none, 0, 0, fun _ => 0, h0.1, fun h => by omega⟩
  simp only [if_true] at hmm
  by_cases h0 : len = 0
  · subst h0; exact ⟨some a, 0, cap, fun _ => 0, rfl, fun h => by omega⟩
  have each : ∀ i, i < m → ∃ q : Int, w.cell? (a.add i) = some (.int .i64 q) := by
    intro i hi
    obtain ⟨cs', h1, h2⟩ := hx i hi
    rw [cellsInt] at h1
    obtain ⟨_, hlen, hcell⟩ := World.cells?_some h1
    obtain ⟨v0, rfl⟩ := one_ofR hlen
    obtain ⟨p, e0, _, hwf⟩ := DataW.trod_int Tryz.underlying3 h2
    simp at e0
    subst e0
    have c0 := hcell 0 (by omega)
    rw [add_add] at c0
    exact ⟨p, by simpa using c0⟩
  obtain ⟨q, hq⟩ := choose_lt each
  obtain ⟨b, o, spot⟩ := a
  have hspot : spot = none := by simpa [Addr.add] using World.cell?_spot (hq 0 (by omega))
  subst hspot
  refine ⟨some ⟨b, o, none⟩, len, cap, q, rfl, fun _ => ⟨b, o, rfl, fun j hj => ?_⟩⟩
  have c0 := hq j (by omega)
  rw [add_plain] at c0
  exact c0
end Go.Proofs.YthgclfhfipfknaaGreat
