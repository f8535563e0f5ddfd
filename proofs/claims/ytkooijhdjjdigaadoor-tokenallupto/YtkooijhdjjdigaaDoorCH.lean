/- Digits of either case, two for each byte. -/
import Derived.Test.YtkooijhdjjdigaaDoorCG
import Derived.Test.YtkooijhdjjdigaaDoorCO
namespace Go.Proofs.YtkooijhdjjdigaaDoor
open Go.ChangeShapes Go.WideShapes Go.ChangeAt Go.RowKit Go.Shelf
set_option linter.unusedVariables false

def hv (c : UInt8) : Nat := (nibR (lowB c)).getD 0
def uhB : List UInt8 → List UInt8
  | a :: b :: r => UInt8.ofNat (hv a * 16 + hv b) :: uhB r
  | _ => []
theorem hex_nib (c : UInt8) (h : hexB c = true) : nibR (lowB c) = some (hv c) := by
  unfold hv
  cases hn : nibR (lowB c) with
  | some v => rfl
  | none =>
    have := (nib_low c).1 (by simp [nibI, hn])
    rw [h] at this
    cases this
theorem hv_lt (c : UInt8) : hv c < 16 := by
  unfold hv
  cases hn : nibR (lowB c) with
  | some v => exact nib_lt hn
  | none => simp
theorem uhB_unhx : ∀ (l : List UInt8), (∀ c ∈ l, hexB c = true) → l.length % 2 = 0 → unhx (l.map lowB) = some (uhB l)
  | [], _, _ => rfl
  | [a], _, h => by simp at h
  | a :: b :: r, h, h2 => by
    rw [List.map_cons, List.map_cons, unhx, hex_nib a (h a (by simp)), hex_nib b (h b (by simp)), uhB_unhx r (fun c hc => h c (by simp [hc])) (by simp at h2; omega)]
    rfl
theorem uhB_len : ∀ (l : List UInt8), (uhB l).length = l.length / 2
  | [] => rfl
  | [a] => by simp [uhB]
  | a :: b :: r => by rw [uhB, List.length_cons, uhB_len r]; simp; omega
theorem uhB_get : ∀ (l : List UInt8) (i : Nat), i < l.length / 2 → (uhB l)[i]? = some (UInt8.ofNat (hv (l.getD (2 * i) 0) * 16 + hv (l.getD (2 * i + 1) 0)))
  | [], i, h => by simp at h
  | [a], i, h => by simp at h
  | a :: b :: r, 0, h => by rw [uhB]; rfl
  | a :: b :: r, i + 1, h => by
    rw [uhB, List.getElem?_cons_succ, uhB_get r i (by simp at h; omega)]
    rfl
theorem makeB (n : Nat) (hn : n ≤ 140737488351232) (W : World) : (Instr.makeSlice 62 (Value.int IntKind.i64 (n : Int)) (Value.int IntKind.i64 (n : Int))).run Tryd.prog W = .ok (.slice (some ⟨W.heap.size, 0, none⟩) n n) (W.alloc (.cells (madeCells (Value.int IntKind.u8 0).cells n) 5)) := by
  obtain ⟨i, hi, hz, hsz, hby⟩ := info_parts info5'
  have := run_make (P := Tryd.prog) W 62 5 i (.int .u8 0) Tryd.underlying62 hi hz .i64 .i64 (n : Int) (n : Int) (by omega) (Int.le_refl _) (by rw [hby]; omega) (by omega)
  simpa [hsz] using this
theorem convB {W : World} {g n : Nat} {cur : Array Value} (U : List UInt8) (hg : W.heap[g]? = some (.cells cur 5 (0, 0))) (hU : U.length = n) (h : ∀ (i : Nat) (x : UInt8), U[i]? = some x → cur[i]? = some (.int .u8 (x.toNat : Int))) :
    (convert 62 9 (.slice (some ⟨g, 0, none⟩) n n)).run Tryd.prog W = .ok (.string ⟨U.toArray⟩) W := by
  subst hU
  refine run_convert_bytes_back W _ _ 5 ⟨g, 0, none⟩ _ U Tryd.underlying62 Tryd.underlying5 Tryd.underlying9 ?_
  intro j hj
  rw [add_plain, Nat.zero_add]
  have : W.cell? ⟨g, j, none⟩ = cur[j]? := by unfold World.cell?; simp only [hg]; rfl
  rw [this]
  exact h j _ (List.getElem?_eq_getElem hj)
theorem or_u8 (x b : Nat) (hb : b < 16) (h : x < 16) : bits BinOp.or IntKind.u8 (IntKind.u8.wrap ((x : Int) * 16)) (b : Int) = ((x * 16 + b : Nat) : Int) := by
  have e : x * 2 ^ 4 ||| b = x * 2 ^ 4 + b := by
    rw [← Nat.shiftLeft_eq, Nat.shiftLeft_add_eq_or_of_lt hb]
  have e1 : IntKind.u8.wrap ((x : Int) * 16) = ((x * 2 ^ 4 : Nat) : Int) := by rw [IntKind.wrap_u8]; omega
  have h1 : x * 2 ^ 4 < 2 ^ 8 := by omega
  have h2 : b < 2 ^ 8 := by omega
  rw [e1]
  unfold bits
  show IntKind.u8.wrap ((BitVec.ofInt 8 ((x * 2 ^ 4 : Nat) : Int) ||| BitVec.ofInt 8 (b : Int)).toNat : Int) = _
  rw [BitVec.ofInt_natCast, BitVec.ofInt_natCast, BitVec.toNat_or, BitVec.toNat_ofNat, BitVec.toNat_ofNat, Nat.mod_eq_of_lt h1, Nat.mod_eq_of_lt h2, e, IntKind.wrap_u8]
  omega
set_option maxRecDepth 10000 in
set_option maxHeartbeats 2000000 in
theorem unhex_e (s : ByteArray) (hs : s.size ≤ 140737488351232) (hh : ∀ c ∈ s.data.toList, hexB c = true) (w : World) :
    Calls Tryd.prog 84 #[.string s] w fun e w' => e = .returned (.string ⟨(uhB s.data.toList).toArray⟩) ∧ Below w.heap.size w w' := by
  obtain ⟨n, hn⟩ : ∃ n, s.size / 2 = n := ⟨_, rfl⟩
  obtain ⟨U, hU⟩ : ∃ U, uhB s.data.toList = U := ⟨_, rfl⟩
  have hlen : s.data.toList.length = s.size := by simp
  have hUn : U.length = n := by rw [← hU, uhB_len, hlen, hn]
  have HG := hide (fun i (hi : i < n) => uhB_get s.data.toList i (by rw [hlen, hn]; exact hi))
  rw [hU] at HG ⊢
  have HH := hide hh
  have HU := hide hUn
  have hdiv : (s.size : Int) / 2 = (n : Int) := by omega
  have hmk := makeB n (by omega)
  have HZ := hide hn
  clear hn hU hUn hlen hh
  go_enter Tryd.func84, Tryd.ntmps84
  go_wp2
  go_loopw [11] (fun iv wr => ∃ (j : Nat) (cur : Array Value), j ≤ n ∧ iv = .int .i64 (j : Int) ∧ wr.heap[w.heap.size]? = some (.cells cur 5 (0, 0)) ∧ cur.size = n ∧ (∀ (i : Nat) (x : UInt8), i < j → U[i]? = some x → cur[i]? = some (.int .u8 (x.toNat : Int))) ∧ Below w.heap.size w wr) (fun iv _ => n - (intOf iv).toNat)
  case atStart => exact ⟨0, _, Nat.zero_le _, rfl, heap_alloc_new w _, size_madeCells _ _, fun i x hi => by omega, below_alloc w _⟩
  case round =>
    obtain ⟨j, cur, hj, rfl, hblk, hcs, hcur, hb⟩ := hrel
    have HBk := hide hblk
    have HCs := hide hcs
    have HCu := hide hcur
    have HBj := hide hb
    clear hblk hcs hcur hb
    by_cases hlt : j < n
    · have l1 : (j : Int) < (n : Int) := by omega
      have l0 : (0 : Int) ≤ (j : Int) := by omega
      have hz := HZ.out
      have hw1 : IntKind.i64.wrap ((j : Int) + 1) = ((j + 1 : Nat) : Int) := by rw [IntKind.wrap_i64]; omega
      have hw2 : IntKind.i64.wrap (2 * (j : Int)) = 2 * (j : Int) := by rw [IntKind.wrap_i64]; omega
      have hw3 : IntKind.i64.wrap (2 * (j : Int) + 1) = 2 * (j : Int) + 1 := by rw [IntKind.wrap_i64]; omega
      have hA : 2 * j < s.size := by omega
      have hB : 2 * j + 1 < s.size := by omega
      have a0 : (0 : Int) ≤ 2 * (j : Int) := by omega
      have a1 : 2 * (j : Int) < (s.size : Int) := by omega
      have b0 : (0 : Int) ≤ 2 * (j : Int) + 1 := by omega
      have b1 : 2 * (j : Int) + 1 < (s.size : Int) := by omega
      have ea : (2 * (j : Int)).toNat = 2 * j := by omega
      have eb : (2 * (j : Int) + 1).toNat = 2 * j + 1 := by omega
      obtain ⟨c, hc⟩ : ∃ c : UInt8, s[2 * j]'hA = c := ⟨_, rfl⟩
      obtain ⟨d, hd⟩ : ∃ d : UInt8, s[2 * j + 1]'hB = d := ⟨_, rfl⟩
      have hbc : ∀ (h : (2 * (j : Int)).toNat < s.size), ((s[(2 * (j : Int)).toNat]'h).toNat : Int) = (c.toNat : Int) := fun h => by simp only [ea, hc]
      have hbd : ∀ (h : (2 * (j : Int) + 1).toNat < s.size), ((s[(2 * (j : Int) + 1).toNat]'h).toNat : Int) = (d.toNat : Int) := fun h => by simp only [eb, hd]
      have gc : s.data.toList.getD (2 * j) 0 = c := by rw [← hc, List.getD_eq_getElem?_getD, List.getElem?_eq_getElem (by simpa using hA)]; rfl
      have gd : s.data.toList.getD (2 * j + 1) 0 = d := by rw [← hd, List.getD_eq_getElem?_getD, List.getElem?_eq_getElem (by simpa using hB)]; rfl
      have hUj := HG.out j hlt
      rw [gc, gd] at hUj
      have mc : hexB c = true := HH.out c (by rw [← hc]; exact List.getElem_mem (by simpa using hA))
      have md : hexB d = true := HH.out d (by rw [← hd]; exact List.getElem_mem (by simpa using hB))
      have HVc := hide (hexval_e c _ (hex_nib c mc))
      have HVd := hide (hexval_e d _ (hex_nib d md))
      have x1 := hv_lt c
      have x2 := hv_lt d
      have HUj := hide hUj
      generalize hv c = x at *
      generalize hv d = y at *
      obtain ⟨old, hold⟩ : ∃ v, cur[j]? = some v := ⟨cur[j]'(by rw [HCs.out]; exact hlt), by simp [HCs.out, hlt]⟩
      have d0 := (block_cell HBk.out j).trans hold
      have f0 := block_frozen HBk.out j
      clear hUj gc gd hc hd mc md hz ea eb
      have HBd : Hid (wr.drew.heap[w.heap.size]? = some (.cells cur 5 (0, 0))) := HBk.out
      have d1 := (block_cell HBd.out j).trans hold
      have f1 := block_frozen HBd.out j
      clear hold
      go_wp2
      go_region_held3 (fun V => True) (exact trivial) (first
        | (go_at_call 95; (with_reducible refine Calls.mono (HVc.out _) ?_); rintro e w5 ⟨rfl, rfl⟩)
        | (go_at_call 95; (with_reducible refine Calls.mono (HVd.out _) ?_); rintro e w5 ⟨rfl, rfl⟩))
      all_goals
        rw [or_u8 x y x2 x1]
        have hz : ((x * 16 + y : Nat) : Int) = ((UInt8.ofNat (x * 16 + y)).toNat : Int) := by rw [UInt8.toNat_ofNat_of_lt' (by show _ < 256; omega)]
        rw [hz]
        generalize UInt8.ofNat (x * 16 + y) = z at *
        have HS := hide (set_block HBk.out j (.int .u8 (z.toNat : Int)))
        have HL : Hid (Below w.heap.size w (wr.setCell ⟨w.heap.size, j, none⟩ (.int .u8 (z.toNat : Int))).drew) := (HBj.out.setCell (Nat.le_refl _) _).drew
        clear d0 f0 d1 f1 hz
        go_wp2
        go_roundw
        case rel =>
          refine ⟨j + 1, _, hlt, rfl, HS.out, by rw [Array.size_setIfInBounds]; exact HCs.out, fun i v hi hv => ?_, HL.out⟩
          by_cases e : i = j
          · subst e
            rw [Array.getElem?_setIfInBounds_self_of_lt (by rw [HCs.out]; exact hlt)]
            rw [HUj.out] at hv
            cases hv
            rfl
          · rw [Array.getElem?_setIfInBounds_ne (fun h => e h.symm)]
            exact HCu.out i v (by omega) hv
        case measure => simp [intOf]; omega
    · have l1 : ¬ (j : Int) < (n : Int) := by omega
      obtain rfl : n = j := by omega
      have hcv := convB U HBk.out HU.out (fun i x hx => HCu.out i x (by rw [← HU.out]; exact (List.getElem?_eq_some_iff.1 hx).1) hx)
      go_wp2
      go_ret
      exact ⟨rfl, HBj.out⟩
end Go.Proofs.YtkooijhdjjdigaaDoor
