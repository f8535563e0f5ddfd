/- The document's keywords and names. -/
import Derived.Test.YtkooijhdjjdigaaDoorKK
namespace Go.Proofs.YtkooijhdjjdigaaDoor
open Go.ChangeShapes Go.WideShapes Go.ChangeAt Go.RowKit
set_option linter.unusedVariables false

/-- The keywords. -/
def kwTab : List (List UInt8) := [
  [65, 66, 79, 82, 84],
  [65, 68, 68],
  [65, 76, 76],
  [65, 76, 84, 69, 82],
  [65, 78, 68],
  [65, 83],
  [65, 83, 67],
  [66, 69, 71, 73, 78],
  [66, 69, 84, 87, 69, 69, 78],
  [66, 89],
  [67, 65, 83, 69],
  [67, 65, 83, 84],
  [67, 72, 69, 67, 75],
  [67, 79, 76, 76, 65, 84, 69],
  [67, 79, 76, 85, 77, 78],
  [67, 79, 77, 77, 73, 84],
  [67, 82, 69, 65, 84, 69],
  [67, 82, 79, 83, 83],
  [68, 69, 70, 65, 85, 76, 84],
  [68, 69, 70, 69, 82, 82, 69, 68],
  [68, 69, 76, 69, 84, 69],
  [68, 69, 83, 67],
  [68, 73, 83, 84, 73, 78, 67, 84],
  [68, 82, 79, 80],
  [69, 76, 83, 69],
  [69, 78, 68],
  [69, 88, 67, 69, 80, 84],
  [69, 88, 67, 76, 85, 83, 73, 86, 69],
  [69, 88, 73, 83, 84, 83],
  [70, 82, 79, 77],
  [71, 76, 79, 66],
  [71, 82, 79, 85, 80],
  [72, 65, 86, 73, 78, 71],
  [73, 70],
  [73, 71, 78, 79, 82, 69],
  [73, 77, 77, 69, 68, 73, 65, 84, 69],
  [73, 78],
  [73, 78, 68, 69, 88],
  [73, 78, 78, 69, 82],
  [73, 78, 83, 69, 82, 84],
  [73, 78, 84, 69, 82, 83, 69, 67, 84],
  [73, 78, 84, 79],
  [73, 83],
  [74, 79, 73, 78],
  [75, 69, 89],
  [76, 69, 70, 84],
  [76, 73, 75, 69],
  [76, 73, 77, 73, 84],
  [78, 79, 84],
  [78, 85, 76, 76],
  [79, 70, 70, 83, 69, 84],
  [79, 78],
  [79, 82],
  [79, 82, 68, 69, 82],
  [79, 85, 84, 69, 82],
  [80, 82, 73, 77, 65, 82, 89],
  [82, 69, 67, 85, 82, 83, 73, 86, 69],
  [82, 69, 76, 69, 65, 83, 69],
  [82, 69, 78, 65, 77, 69],
  [82, 69, 80, 76, 65, 67, 69],
  [82, 79, 76, 76, 66, 65, 67, 75],
  [83, 65, 86, 69, 80, 79, 73, 78, 84],
  [83, 69, 76, 69, 67, 84],
  [83, 69, 84],
  [84, 65, 66, 76, 69],
  [84, 72, 69, 78],
  [84, 79],
  [84, 82, 65, 78, 83, 65, 67, 84, 73, 79, 78],
  [85, 78, 73, 79, 78],
  [85, 78, 73, 81, 85, 69],
  [85, 80, 68, 65, 84, 69],
  [85, 83, 73, 78, 71],
  [86, 65, 76, 85, 69, 83],
  [86, 73, 69, 87],
  [87, 72, 69, 78],
  [87, 72, 69, 82, 69],
  [87, 73, 84, 72]]
/-- The keyword that a word is in any case. -/
def keyR (l : List UInt8) : Option (List UInt8) := kwTab.find? fun x => decide (x.map lowB = l.map lowB)
def keyV (o : Option (List UInt8)) : Value := match o with | some l => .tuple #[.string ⟨l.toArray⟩, .bool true] | none => .tuple #[.string ⟨#[]⟩, .bool false]
theorem own_cell {w : World} {base : Nat} {v : Value} {K : List (List UInt8)} (h : w.ownsRow base 9 1 v K.length (stL K)) : ∃ p c, v = .slice p K.length c ∧ (0 < K.length → ∃ g, p = some ⟨g, 0, none⟩ ∧ ∀ V, Below w.heap.size w V → ∀ i x, K[i]? = some x → V.cell? ⟨g, i, none⟩ = some (.string ⟨x.toArray⟩)) := by
  rcases h.2 with ⟨rfl, h0⟩ | ⟨g, cap, cur, rfl, hbg, hg, hnc, hcm, hcs, htake⟩
  · exact ⟨none, 0, by rw [h0], fun hh => by omega⟩
  · refine ⟨some ⟨g, 0, none⟩, cap, rfl, fun _ => ⟨g, rfl, fun V hV i x hx => ?_⟩⟩
    have hi := (List.getElem?_eq_some_iff.1 hx).1
    have h1 : V.heap[g]? = some (.cells cur 9 (0, 0)) := (hV.block g (Array.getElem?_eq_some_iff.1 hg).1).trans hg
    rw [cell_of_row V g i _ _ _ h1, ← Array.getElem?_toList]
    have h2 : (cur.toList.take (K.length * 1))[i]? = (stL K)[i]? := by rw [htake]
    rw [List.getElem?_take, if_pos (by omega)] at h2
    rw [h2, stL, List.getElem?_map, hx]
    rfl

set_option maxHeartbeats 2000000 in
set_option maxRecDepth 20000 in
theorem keyword_e (s : ByteArray) (hs : s.size ≤ 140737488351232) (w : World) :
    Calls Tryd.prog 16 #[.string s] w fun e w' => e = .returned (keyV (keyR s.data.toList)) ∧ Below w.heap.size w w' := by
  obtain ⟨R, hR⟩ : ∃ R, keyR s.data.toList = R := ⟨_, rfl⟩
  rw [hR]
  unfold keyR at hR
  obtain ⟨K, hK⟩ : ∃ K, kwTab = K := ⟨_, rfl⟩
  have hK2 : K.length < 200 := by rw [← hK]; decide
  have hKs : ∀ x ∈ K, x.length ≤ 100 := by rw [← hK]; decide
  rw [hK] at hR
  have HR := hide hR
  have HK := hide hK
  clear hR hK
  have HF := hide (fun V => fold_low s hs V)
  obtain ⟨F, hF⟩ : ∃ F : ByteArray, (⟨(s.data.toList.map lowB).toArray⟩ : ByteArray) = F := ⟨_, rfl⟩
  rw [hF] at HF
  go_enter Tryd.func16, Tryd.ntmps16
  go_upto_region 3 with (first
    | (go_at_call 31; refine Calls.mono (words_e _ (by decide) K (HK.out ▸ (by kernel_rfl)) _) ?_; rintro e w5 ⟨v, rfl, hown, hb⟩; obtain ⟨p, c, rfl, hcell⟩ := own_cell hown; have HC := hide hcell; have HB := hide hb; clear hown hcell hb))
  have HB5 := hide (Below.refl w5.heap.size w5)
  go_loopw [5] (fun iv wr => ∃ i : Nat, i ≤ K.length ∧ iv = .int .i64 (i : Int) ∧ (K.drop i).find? (fun x => decide (x.map lowB = s.data.toList.map lowB)) = R ∧ Below w5.heap.size w5 wr) (fun iv _ => K.length - (intOf iv).toNat)
  case atStart => exact ⟨0, by omega, rfl, HR.out, Below.refl _ _⟩
  case round =>
    obtain ⟨i, hi, rfl, hrel, hbel⟩ := hrel
    have HBr := hide hbel
    clear hbel
    by_cases hlt : i < K.length
    · have l1 : (i : Int) < (K.length : Int) := by omega
      have l0 : (0 : Int) ≤ (i : Int) := by omega
      have hw1 : IntKind.i64.wrap ((i : Int) + 1) = ((i + 1 : Nat) : Int) := by rw [IntKind.wrap_i64]; omega
      obtain ⟨g, rfl, hcell⟩ := HC.out (by omega)
      obtain ⟨x, hx⟩ : ∃ x, K[i]? = some x := ⟨_, List.getElem?_eq_getElem hlt⟩
      have hx2 := hKs x (List.mem_of_getElem? hx)
      have hdr : K.drop i = x :: K.drop (i + 1) := by
        rw [List.drop_eq_getElem_cons hlt]
        congr 1
        exact Option.some.inj ((List.getElem?_eq_getElem hlt).symm.trans hx)
      obtain ⟨X, hX⟩ : ∃ X : ByteArray, (⟨x.toArray⟩ : ByteArray) = X := ⟨_, rfl⟩
      have hXl : X.data.toList = x := by rw [← hX]
      have hXs : X.size ≤ 140737488351232 := by
        have h1 : X.data.toList.length = X.size := by simp
        rw [hXl] at h1
        omega
      have HG := hide (fun V (hV : Below w5.heap.size w5 V) => hX ▸ hcell V hV i x hx)
      have c0 := HG.out _ HBr.out
      obtain ⟨Y, hY⟩ : ∃ Y : ByteArray, (⟨(X.data.toList.map lowB).toArray⟩ : ByteArray) = Y := ⟨_, rfl⟩
      have HX := hide (fun V => fold_low X hXs V)
      rw [hY] at HX
      rw [hdr, List.find?_cons] at hrel
      by_cases he : x.map lowB = s.data.toList.map lowB
      · rw [show decide (x.map lowB = s.data.toList.map lowB) = true by simpa using he] at hrel
        have hYF : Y = F := by rw [← hY, ← hF, hXl, he]
        subst hYF
        have HN : Hid (R = some x) := hrel.symm
        clear hrel hdr hx hY hF hcell
        go_wp2_with (first
          | (go_at_call 32; (with_reducible refine Calls.mono (HX.out _) ?_); rintro e w6 ⟨rfl, hb6⟩; have HB6 := hide (below_trans HBr.out hb6); clear hb6)
          | (go_at_call 32; (with_reducible refine Calls.mono (HF.out _) ?_); rintro e w7 ⟨rfl, hb7⟩; have HB7 := hide (below_trans HB6.out hb7); have c7 := HG.out _ HB7.out; clear hb7))
        go_ret2
        rw [HN.out, keyV, hX]
        exact ⟨rfl, below_trans HB.out HB7.out⟩
      · rw [show decide (x.map lowB = s.data.toList.map lowB) = false by simpa using he] at hrel
        have hYF : ¬ Y = F := by
          intro e
          refine he ?_
          have := congrArg (fun z : ByteArray => z.data.toList) (hY.trans (e.trans hF.symm))
          simpa [hXl] using this
        have hYF3 : (Y.toList == F.toList) = false := by
          refine beq_eq_false_iff_ne.2 fun e => hYF ?_
          rw [ByteArray.toList_eq, ByteArray.toList_eq] at e
          cases Y; cases F; congr 1; exact Array.toList_inj.1 e
        have HN := hide hrel
        clear hrel hdr hx hY hF hcell hYF
        go_wp2_with (first
          | (go_at_call 32; (with_reducible refine Calls.mono (HX.out _) ?_); rintro e w6 ⟨rfl, hb6⟩; have HB6 := hide (below_trans HBr.out hb6); clear hb6)
          | (go_at_call 32; (with_reducible refine Calls.mono (HF.out _) ?_); rintro e w7 ⟨rfl, hb7⟩; have HB7 := hide (below_trans HB6.out hb7); have c7 := HG.out _ HB7.out; clear hb7))
        go_roundw
        case rel => exact ⟨i + 1, by omega, rfl, HN.out, HB7.out⟩
        case measure => simp [intOf]; omega
    · have hie : i = K.length := by omega
      have l1 : ¬ (K.length : Int) < (K.length : Int) := by omega
      subst hie
      rw [List.drop_of_length_le (by simp)] at hrel
      have HN : Hid (R = none) := hrel.symm
      clear hrel
      go_wp2
      go_ret2
      rw [HN.out]
      exact ⟨rfl, below_trans HB.out HBr.out⟩
/-- A name, as the document has it: at most 32 letters, digits and underscores, no digit first. -/
def nameB (l : List UInt8) : Bool := decide (l.length ≤ 32) && (l.head?.map letB).getD false && l.all fun c => letB c || digB c
end Go.Proofs.YtkooijhdjjdigaaDoor
