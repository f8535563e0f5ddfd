/- unhex: the loop. -/
import Derived.Test.YtghemaghbpekfaaGreatDoorVH
import Derived.Laws.MakeOwn
namespace Go.Proofs.YtghemaghbpekfaaGreatDoor
open Go.ChangeShapes Go.WideShapes Go.ChangeAt Go.RowKit
set_option linter.unusedVariables false

def nib (p : UInt8) : Int := Lib.indexByte dig16 p

theorem ib_walk (p : UInt8) (w : World) : Calls Tryz.prog 63 #[.string ⟨#[48, 49, 50, 51, 52, 53, 54, 55, 56, 57, 97, 98, 99, 100, 101, 102]⟩, .int .u8 (p.toNat : Int)] w fun e w' => e = .returned (.int .i64 (nib p)) ∧ w = w' := by
  refine (Tryz.strings_IndexByte _ _ _).mono ?_
  rintro e w1 ⟨rfl, rfl⟩
  refine ⟨?_, rfl⟩
  simp [nib, dig16]

theorem pair_val (p r : UInt8) : IntKind.u8.wrap (bits BinOp.or IntKind.i64 (IntKind.i64.wrap (nib p * 16)) (nib r)) = ((pairB p r).toNat : Int) := by
  unfold pairB nib
  have h : ∀ x : Int, IntKind.u8.wrap x = ((UInt8.ofNat (IntKind.u8.wrap x).toNat).toNat : Int) := by
    intro x
    have h1 : IntKind.u8.wrap x = x % 256 := by simp [IntKind.wrap, IntKind.signed, IntKind.bits]
    rw [h1, UInt8.toNat_ofNat']
    omega
  exact h _

theorem pair_val2 (p r : UInt8) : bits BinOp.or IntKind.i64 (wrap64 (nib p * 16)) (nib r) % 256 = ((pairB p r).toNat : Int) := by
  rw [← pair_val p r]
  have h1 : ∀ x : Int, IntKind.u8.wrap x = x % 256 := fun x => by simp [IntKind.wrap, IntKind.signed, IntKind.bits]
  rw [h1, show wrap64 (nib p * 16) = IntKind.i64.wrap (nib p * 16) by unfold wrap64; rw [IntKind.wrap_i64]]

/-- The bytes that the digits spell, as far as k of them. -/
def unhexTo (l : List UInt8) (k : Nat) : List UInt8 := (unhexL l).take k ++ List.replicate (l.length / 2 - k) 0

theorem unhexL_at : ∀ (l : List UInt8) (k : Nat) (p r : UInt8), l[2 * k]? = some p → l[2 * k + 1]? = some r → (unhexL l)[k]? = some (pairB p r)
  | [], k, p, r, h, _ => by simp at h
  | [_], k, p, r, _, h => by simp at h
  | a :: b :: l, 0, p, r, h1, h2 => by simp at h1 h2; subst h1 h2; simp [unhexL]
  | a :: b :: l, k + 1, p, r, h1, h2 => by
    rw [show 2 * (k + 1) = 2 * k + 1 + 1 by omega] at h1 h2
    simp only [List.getElem?_cons_succ] at h1 h2
    simp only [unhexL, List.getElem?_cons_succ]
    exact unhexL_at l k p r h1 h2

theorem unhexTo_step (l : List UInt8) (k : Nat) (p r : UInt8) (hk : k < l.length / 2) (h1 : l[2 * k]? = some p) (h2 : l[2 * k + 1]? = some r) :
    (unhexTo l k).set k (pairB p r) = unhexTo l (k + 1) := by
  have hl := unhexL_length l
  have ha := unhexL_at l k p r h1 h2
  unfold unhexTo
  rw [List.take_add_one, ha]
  have ht : ((unhexL l).take k).length = k := by rw [List.length_take, hl]; omega
  rw [List.set_append_right _ _ (by rw [ht]; omega), ht, Nat.sub_self]
  rw [show l.length / 2 - k = (l.length / 2 - (k + 1)) + 1 by omega, List.replicate_succ]
  simp

theorem unhexTo_length (l : List UInt8) (k : Nat) (hk : k ≤ l.length / 2) : (unhexTo l k).length = l.length / 2 := by
  unfold unhexTo
  rw [List.length_append, List.length_take, unhexL_length, List.length_replicate]; omega

theorem made_zeros (n : Nat) : madeCells #[Value.int .u8 0] n = (bcs (List.replicate n 0)).toArray := by
  apply Array.ext
  · simp [madeCells, bcs]
  · intro i h1 h2
    simp [madeCells, bcs, Nat.mod_one]

theorem set_block {w : World} {b : Nat} {cs : Array Value} {t : TypeId} (h : w.heap[b]? = some (.cells cs t (0, 0))) (o : Nat) (v : Value) : (w.setCell ⟨b, o, none⟩ v).heap[b]? = some (.cells (cs.setIfInBounds o v) t (0, 0)) := by
  simp [World.setCell, Array.getElem?_modify, h]

theorem block_cell {w : World} {b : Nat} {cs : Array Value} {t : TypeId} (h : w.heap[b]? = some (.cells cs t (0, 0))) (i : Nat) : w.cell? ⟨b, i, none⟩ = cs[i]? := by
  unfold World.cell?
  simp only [h]
  rfl

set_option maxHeartbeats 1000000 in
set_option maxRecDepth 10000 in
theorem unhex_walk (t : ByteArray) (ht : t.size ≤ 1000) (w : World) : Calls Tryz.prog 49 #[.string t] w fun e w' => e = .returned (.string ⟨(unhexL t.data.toList).toArray⟩) ∧ Below w.heap.size w w' := by
  obtain ⟨i0, hi0, hz0, hz1, hz2⟩ := info_parts info5'
  obtain ⟨n, hn⟩ : ∃ n : Nat, t.size / 2 = n := ⟨_, rfl⟩
  have hr := run_make (P := Tryz.prog) w 53 5 i0 (.int .u8 0) Tryz.underlying53 hi0 hz0 .i64 .i64 n n (by omega) (by omega) (by rw [hz2]; omega) (by omega)
  have hq1 : (t.size : Int).tdiv 2 = (n : Int) := by rw [Int.tdiv_eq_ediv_of_nonneg (by omega)]; omega
  have hq2 : (t.size : Int) / 2 = (n : Int) := by omega
  simp only [Int.toNat_natCast] at hr
  go_enter Tryz.func49, Tryz.ntmps49
  go_wp2
  go_name_world W hW
  go_loopw [13] (fun i wr => ∃ k : Nat, k ≤ n ∧ i = .int .i64 k ∧ wr.heap[w.heap.size]? = some (.cells (bcs (unhexTo t.data.toList k)).toArray 5 (0, 0)) ∧ Below w.heap.size w wr) (fun i _ => n - (intOf i).toNat)
  case atStart =>
    refine ⟨0, Nat.zero_le _, rfl, ?_, new_below w _ hW⟩
    rw [← hW, made_zeros]
    have hl : t.data.toList.length = t.size := by simp
    show (w.heap.push _)[w.heap.size]? = _
    simp [unhexTo, hn]
  case round =>
    obtain ⟨k, hk, rfl, hblk, hbel⟩ := hrel
    have hl : t.data.toList.length = t.size := by simp
    by_cases hlt : k < n
    · have l1 : (k : Int) < (n : Int) := by omega
      have l0 : (0 : Int) ≤ (k : Int) := by omega
      have p1 : 2 * k < t.size := by omega
      have p2 : 2 * k + 1 < t.size := by omega
      obtain ⟨p, hp⟩ : ∃ p : UInt8, t[2 * k]'p1 = p := ⟨_, rfl⟩
      obtain ⟨r, hrr⟩ : ∃ r : UInt8, t[2 * k + 1]'p2 = r := ⟨_, rfl⟩
      have hb1 : ∀ (h : 2 * k < t.size), ((t[2 * k]'h).toNat : Int) = (p.toNat : Int) := fun h => by rw [hp]
      have hb2 : ∀ (h : 2 * k + 1 < t.size), ((t[2 * k + 1]'h).toNat : Int) = (r.toNat : Int) := fun h => by rw [hrr]
      have m1 : (2 * (k : Int)).toNat = 2 * k := by omega
      have m2 : (2 * (k : Int) + 1).toNat = 2 * k + 1 := by omega
      have m3 : (0 : Int) ≤ 2 * (k : Int) := by omega
      have m4 : 2 * (k : Int) < (t.size : Int) := by omega
      have m5 : (0 : Int) ≤ 2 * (k : Int) + 1 := by omega
      have m6 : 2 * (k : Int) + 1 < (t.size : Int) := by omega
      have hw1 : IntKind.i64.wrap (2 * (k : Int)) = 2 * (k : Int) := by rw [IntKind.wrap_i64]; omega
      have hw2 : IntKind.i64.wrap (2 * (k : Int) + 1) = 2 * (k : Int) + 1 := by rw [IntKind.wrap_i64]; omega
      have HP : Hid (t[2 * k]'p1 = p ∧ t[2 * k + 1]'p2 = r) := ⟨hp, hrr⟩
      have HB : Hid (Below w.heap.size w wr) := hbel
      have HK : Hid (wr.heap[w.heap.size]? = some (.cells (bcs (unhexTo t.data.toList k)).toArray 5 (0, 0))) := hblk
      have hPV := pair_val p r
      have hcell : wr.cell? ⟨w.heap.size, k, none⟩ = some (.int .u8 (((unhexTo t.data.toList k).getD k 0).toNat : Int)) := by
        rw [block_cell hblk]
        have : k < (unhexTo t.data.toList k).length := by rw [unhexTo_length _ _ (by rw [hl]; omega), hl]; omega
        simp [bcs, List.getD, this]
      have hfro : wr.frozen? ⟨w.heap.size, k, none⟩ = false := by simp [World.frozen?, hblk]
      clear hp hrr hbel hblk hr hW
      go_wp2_with fail
      go_region_held3 (fun _ => True) (trivial) (first | (go_at_call 63; with_reducible refine Calls.mono (ib_walk _ _) ?_; rintro e w2 ⟨rfl, rfl⟩))
      all_goals
        go_wp2
        go_roundw
        case rel =>
          refine ⟨k + 1, by omega, by simp, ?_, ?_⟩
          · have h := set_block HK.out k (.int .u8 ((pairB p r).toNat : Int))
            obtain ⟨e1, e2⟩ := HP.out
            have g1 : t.data.toList[2 * k]? = some p := by rw [Array.getElem?_toList, ← e1]; exact Array.getElem?_eq_getElem _
            have g2 : t.data.toList[2 * k + 1]? = some r := by rw [Array.getElem?_toList, ← e2]; exact Array.getElem?_eq_getElem _
            rw [← unhexTo_step _ k p r (by rw [hl]; omega) g1 g2]
            have hm : (bcs (unhexTo t.data.toList k)).toArray.setIfInBounds k (.int .u8 ((pairB p r).toNat : Int)) = (bcs ((unhexTo t.data.toList k).set k (pairB p r))).toArray := by
              simp [bcs, List.map_set]
            rw [hm] at h
            rw [pair_val2]
            exact h
          · exact HB.out.drew.setCell (Nat.le_refl _) _
        case measure => simp [intOf]; omega
    · have hkn : k = n := by omega
      subst hkn
      have l1 : ¬ ((k : Int) < (k : Int)) := by omega
      have he : unhexTo t.data.toList k = unhexL t.data.toList := by
        unfold unhexTo
        rw [hl, hn, Nat.sub_self, List.take_of_length_le (by rw [unhexL_length, hl]; omega)]
        simp
      have hlen : (unhexL t.data.toList).length = k := by rw [unhexL_length, hl, hn]
      have hcv := run_convert_bytes_back (P := Tryz.prog) wr 53 9 5 ⟨w.heap.size, 0, none⟩ k (unhexL t.data.toList) Tryz.underlying53 Tryz.underlying5 Tryz.underlying9 (by
        intro j hj
        rw [show (⟨w.heap.size, 0, none⟩ : Addr).add j = ⟨w.heap.size, j, none⟩ by unfold Addr.add; split <;> simp_all]
        rw [block_cell hblk, he]
        simp [bcs, hj])
      rw [hlen] at hcv
      have HB : Hid (Below w.heap.size w wr) := hbel
      clear hbel hblk hr hW he hlen
      go_wp2
      go_ret
      exact ⟨rfl, HB.out⟩
end Go.Proofs.YtghemaghbpekfaaGreatDoor
