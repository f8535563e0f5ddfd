/- Varint. -/
/- strings.Builder: what is written to one. -/
import Derived.Test.YthgclfhfipfknaaGreatVF
import Derived.Test.YthgclfhfipfknaaGreatVB
import Derived.Test.YthgclfhfipfknaaGreatProg
import Derived.WalkKit
import Derived.ProofKit
namespace Go.Proofs.YthgclfhfipfknaaGreat.Rec
open Go.ChangeShapes Go.WideShapes Go.ChangeAt Go.RowKit
set_option linter.unusedVariables false

theorem and128 : ∀ q : Fin 256, bits BinOp.and IntKind.u8 (q.val : Int) 128 = if q.val < 128 then 0 else 128 := by decide +kernel
theorem and128' (p : UInt8) : bits BinOp.and IntKind.u8 (p.toNat : Int) 128 = if p.toNat < 128 then 0 else 128 := and128 ⟨p.toNat, p.toNat_lt⟩
theorem and127' (p : UInt8) : bits BinOp.and IntKind.u8 (p.toNat : Int) 127 = ((p.toNat % 128 : Nat) : Int) := and127 ⟨p.toNat, p.toNat_lt⟩

theorem or_add (a b i : Nat) (hb : b < 2 ^ i) (h : a * 2 ^ i + b < 18446744073709551616) : bits BinOp.or IntKind.u64 ((a * 2 ^ i : Nat) : Int) (b : Int) = ((a * 2 ^ i + b : Nat) : Int) := by
  have e : a * 2 ^ i ||| b = a * 2 ^ i + b := by
    rw [← Nat.shiftLeft_eq, Nat.shiftLeft_add_eq_or_of_lt hb]
  have h1 : a * 2 ^ i < 2 ^ 64 := by omega
  have h2 : b < 2 ^ 64 := by omega
  unfold bits
  show IntKind.u64.wrap ((BitVec.ofInt 64 ((a * 2 ^ i : Nat) : Int) ||| BitVec.ofInt 64 (b : Int)).toNat : Int) = _
  rw [BitVec.ofInt_natCast, BitVec.ofInt_natCast, BitVec.toNat_or, BitVec.toNat_ofNat, BitVec.toNat_ofNat, Nat.mod_eq_of_lt h1, Nat.mod_eq_of_lt h2, e, IntKind.wrap_u64]
  omega
theorem or_256 (v : Nat) (p : UInt8) (h : v < 72057594037927936) : bits BinOp.or IntKind.u64 (IntKind.u64.wrap ((v : Int) * 256)) (IntKind.u64.wrap (p.toNat : Int)) = ((v * 256 + p.toNat : Nat) : Int) := by
  have hp := p.toNat_lt
  rw [show IntKind.u64.wrap ((v : Int) * 256) = ((v * 2 ^ 8 : Nat) : Int) by rw [IntKind.wrap_u64]; omega, show IntKind.u64.wrap (p.toNat : Int) = (p.toNat : Int) by rw [IntKind.wrap_u64]; omega]
  exact or_add v p.toNat 8 (by omega) (by omega)
theorem or_128 (v : Nat) (p : UInt8) (h : v < 562949953421312) : bits BinOp.or IntKind.u64 (IntKind.u64.wrap ((v : Int) * 128)) ((p.toNat : Int) % 128) = ((v * 128 + p.toNat % 128 : Nat) : Int) := by
  rw [show IntKind.u64.wrap ((v : Int) * 128) = ((v * 2 ^ 7 : Nat) : Int) by rw [IntKind.wrap_u64]; omega, show (p.toNat : Int) % 128 = ((p.toNat % 128 : Nat) : Int) by omega]
  exact or_add v (p.toNat % 128) 7 (by omega) (by omega)

theorem or_128' (v : Nat) (p : UInt8) (h : v < 562949953421312) : bits BinOp.or IntKind.u64 (IntKind.u64.wrap ((v : Int) * 128)) (IntKind.u64.wrap (bits BinOp.and IntKind.u8 (p.toNat : Int) 127)) = ((v * 128 + p.toNat % 128 : Nat) : Int) := by
  rw [and127' p, show IntKind.u64.wrap ((p.toNat % 128 : Nat) : Int) = (p.toNat : Int) % 128 by rw [IntKind.wrap_u64]; omega]
  exact or_128 v p h

set_option maxHeartbeats 1000000 in
set_option maxRecDepth 10000 in
theorem begun_walk (s : ByteArray) (hs : s.size ≤ 140737488355328) (u n : Nat) (h : beg s.data.toList 0 0 = (u, n)) (w : World) : Calls Tryz.prog 246 #[.string s] w fun e w' => e = .returned (.tuple #[.int .u64 (u : Int), .int .i64 (n : Int)]) ∧ w = w' := by
  go_enter Tryz.func246, Tryz.ntmps246
  go_wp2
  go_loopw [2, 3] (fun uv nv wr => ∃ (j : Nat) (d : List UInt8), d.length = j ∧ (∀ b ∈ d, 128 ≤ b.toNat) ∧ j ≤ 8 ∧ d ++ s.data.toList.drop j = s.data.toList ∧ j ≤ s.size ∧ uv = .int .u64 (valD d : Int) ∧ nv = .int .i64 (j : Int) ∧ beg (s.data.toList.drop j) j (valD d) = (u, n) ∧ w = wr) (fun _ nv _ => s.size - (intOf nv).toNat)
  case atStart =>
    exact ⟨0, [], rfl, by simp, by omega, rfl, by omega, rfl, rfl, h, rfl⟩
  case round =>
    obtain ⟨j, d, hd, hhi, hj8, happ, hjs, rfl, rfl, hbeg, rfl⟩ := hrel
    obtain ⟨v, hv⟩ : ∃ v, valD d = v := ⟨_, rfl⟩
    rw [hv]
    by_cases hlt : j < s.size
    · have l1 : (j : Int) < (s.size : Int) := by omega
      have l0 : (0 : Int) ≤ (j : Int) := by omega
      obtain ⟨p, hp⟩ : ∃ p : UInt8, s[j]'hlt = p := ⟨_, rfl⟩
      have hb1 : ∀ (h : j < s.size), ((s[j]'h).toNat : Int) = (p.toNat : Int) := fun h => by rw [hp]
      have ha1 := and128' p
      have hvl := valD_lt d
      rw [hv, hd] at hvl
      have hdrop : s.data.toList.drop j = p :: s.data.toList.drop (j + 1) := by
        rw [← hp, List.drop_eq_getElem_cons (by simpa using hlt)]
        rfl
      rw [hdrop, beg, hv] at hbeg
      have happ2 : (d ++ [p]) ++ s.data.toList.drop (j + 1) = s.data.toList := by
        rw [List.append_assoc, List.singleton_append, ← hdrop]; exact happ
      have HD := hide (And.intro hd (And.intro hhi (And.intro happ2 hv)))
      clear hd hhi happ happ2 hv hp h hdrop
      by_cases h8 : j = 8
      · subst h8
        rw [if_pos rfl] at hbeg
        obtain ⟨rfl, rfl⟩ : v * 256 + p.toNat = u ∧ 9 = n := by simpa using hbeg
        simp only [Nat.reducePow] at hvl
        have ho := or_256 v p (by omega)
        clear hvl hbeg
        go_wp2
        go_ret2
        exact ⟨by first | rfl | simp, rfl⟩
      · have h9 : ((j : Int) + 1 == 9) = false := by simp; omega
        rw [if_neg h8] at hbeg
        have ho := or_128' v p (by
          have : 128 ^ j ≤ 128 ^ 7 := Nat.pow_le_pow_right (by omega) (by omega)
          simp only [Nat.reducePow] at this
          omega)
        have hwj : IntKind.i64.wrap ((j : Int) + 1) = ((j + 1 : Nat) : Int) := by rw [IntKind.wrap_i64]; omega
        clear hvl
        by_cases hp1 : p.toNat < 128
        · rw [if_pos hp1] at hbeg ha1
          obtain ⟨rfl, rfl⟩ : v * 128 + p.toNat = u ∧ j + 1 = n := by simpa using hbeg
          rw [Nat.mod_eq_of_lt hp1] at ho
          clear hbeg
          go_wp2
          go_ret2
          exact ⟨by first | rfl | simp, rfl⟩
        · rw [if_neg hp1] at hbeg ha1
          have HBG := hide hbeg
          clear hbeg
          go_wp2
          obtain ⟨hd, hhi, happ2, hv⟩ := HD.out
          refine ⟨⟨j + 1, d ++ [p], by simp [hd], ?_, by omega, happ2, by omega, ?_, ?_, ?_, trivial⟩, ?_⟩
          · intro b hb
            rcases List.mem_append.1 hb with h | h
            · exact hhi b h
            · have : b = p := by simpa using h
              subst this; omega
          · rw [valD_snoc, hv]
            exact congrArg _ (by omega)
          · first | rfl | simp
          · rw [valD_snoc, hv]; exact HBG.out
          · simp [intOf]; omega
    · have hj : j = s.size := by omega
      subst hj
      rw [List.drop_of_length_le (by simp), beg] at hbeg
      obtain ⟨rfl, rfl⟩ : 0 = u ∧ 0 = n := by simpa using hbeg
      clear hbeg hv hd hhi happ h
      go_wp2
      go_ret2
      exact ⟨by first | rfl | simp, rfl⟩

/-- What Varint answers. -/
def vrdU (l : List UInt8) : Nat := if (beg l 0 0).2 = vsz (beg l 0 0).1 then (beg l 0 0).1 else 0
def vrdN (l : List UInt8) : Nat := if (beg l 0 0).2 = vsz (beg l 0 0).1 then (beg l 0 0).2 else 0

set_option maxHeartbeats 1000000 in
theorem varint_walk (s : ByteArray) (hs : s.size ≤ 140737488355328) (w : World) : Calls Tryz.prog 183 #[.string s] w fun e w' => e = .returned (.tuple #[.int .u64 (vrdU s.data.toList : Int), .int .i64 (vrdN s.data.toList : Int), .int .i64 (if vrdN s.data.toList = 0 then 8 else 0)]) ∧ w = w' := by
  obtain ⟨u, n, h⟩ : ∃ u n, beg s.data.toList 0 0 = (u, n) := ⟨_, _, rfl⟩
  have hb := beg_iff s.data.toList u n h
  have hu : u < 18446744073709551616 := by omega
  have HB : Hid (∀ V, Calls Tryz.prog 246 #[.string s] V fun e w' => e = .returned (.tuple #[.int .u64 (u : Int), .int .i64 (n : Int)]) ∧ V = w') := fun V => begun_walk s hs u n h V
  have HV : Hid (∀ V, Calls Tryz.prog 196 #[.int .u64 (u : Int)] V fun e w' => e = .returned (.int .i64 (vsz u : Int)) ∧ V = w') := fun V => size_walk u hu V
  have hp := vsz_pos u
  unfold vrdU vrdN
  rw [h]
  by_cases hn : n = vsz u
  · have e1 : ((n : Int) == (vsz u : Int)) = true := by simp; omega
    rw [if_pos hn, if_pos hn, if_neg (by omega)]
    clear hb hu hp h hs
    generalize vsz u = m at *
    subst hn
    go_enter Tryz.func183, Tryz.ntmps183
    go_wp2_with (first
      | (go_at_call 246; with_reducible refine Calls.mono (HB.out _) ?_; rintro e w1 ⟨rfl, rfl⟩)
      | (go_at_call 196; with_reducible refine Calls.mono (HV.out _) ?_; rintro e w2 ⟨rfl, rfl⟩))
    go_returns
    exact ⟨rfl, rfl⟩
  · rw [if_neg hn, if_neg hn, if_pos rfl]
    have e1 : ((n : Int) == (vsz u : Int)) = false := by simp; omega
    have e2 : ((n : Int) != (vsz u : Int)) = true := by simp [bne, e1]
    clear hb hu hp h hs
    generalize vsz u = m at *
    clear hn
    go_enter Tryz.func183, Tryz.ntmps183
    go_wp2_with (first
      | (go_at_call 246; with_reducible refine Calls.mono (HB.out _) ?_; rintro e w1 ⟨rfl, rfl⟩)
      | (go_at_call 196; with_reducible refine Calls.mono (HV.out _) ?_; rintro e w2 ⟨rfl, rfl⟩))
    go_returns
    exact ⟨rfl, rfl⟩
end Go.Proofs.YthgclfhfipfknaaGreat.Rec

namespace Go.Proofs.YthgclfhfipfknaaGreat
open Go.ChangeShapes Go.WideShapes Go.ChangeAt Go.RowKit
set_option linter.unusedVariables false

theorem bd_size : (Tryz.prog.info? 203).map (·.size) = some 2 := by kernel_rfl
theorem bd_lies : liesAt Tryz.prog Tryz.prog.depth 203 (2 / Tryz.prog.cellsOf 203) 0 203 1 = true := by kernel_rfl
theorem bd_byte : (Tryz.prog.info? 5).map (fun i => (i.zero, i.size, i.bytes)) = some (some (.int .u8 0), 1, 1) := by kernel_rfl

set_option maxHeartbeats 1000000 in
set_option maxRecDepth 100000 in
theorem bd_check_used (b : Nat) (w : World) (h0 : w.cell? ⟨b, 0, none⟩ = some (.pointer (some ⟨b, 0, none⟩))) :
    Calls Tryz.prog 184 #[.pointer (some ⟨b, 0, none⟩)] w fun e w' => e = .returned (.tuple #[]) ∧ w' = w := by
  obtain ⟨j, hj, _⟩ := Option.map_eq_some_iff.1 bd_size
  go_enter Tryz.func184, Tryz.ntmps184
  go_wp2
  rw [Lib.run_neq_ptr_same w _ Tryz.underlying201 hj]
  go_wp2
  go_end0
  exact ⟨rfl, rfl⟩

set_option maxHeartbeats 1000000 in
set_option maxRecDepth 100000 in
theorem bd_check_fresh (b : Nat) (w : World) (h0 : w.cell? ⟨b, 0, none⟩ = some (.pointer none)) (hsh : w.shape? b = some (203, 2)) (hfz : w.frozen? ⟨b, 0, none⟩ = false) :
    Calls Tryz.prog 184 #[.pointer (some ⟨b, 0, none⟩)] w fun e w' => e = .returned (.tuple #[]) ∧ w' = w.setCell ⟨b, 0, none⟩ (.pointer (some ⟨b, 0, none⟩)) := by
  obtain ⟨j, hj, hjs⟩ := Option.map_eq_some_iff.1 bd_size
  go_enter Tryz.func184, Tryz.ntmps184
  go_wp2
  rw [Lib.run_to_unsafe w ⟨b, 0, none⟩ Tryz.underlying201 Tryz.underlying344 hj (by rw [hjs]; decide) hsh (Nat.zero_lt_succ 1)]
  simp only [Result.andThen]
  rw [Oper.upon_value]
  go_wp2
  rw [run_callFunc_extern Tryz.func247 (by kernel_rfl) (by kernel_rfl) (by kernel_rfl) (e := Extern.AbiNoEscape.same) (by kernel_rfl)]
  rw [Lib.run_noEscape]
  simp only [Result.andThen]
  rw [Oper.upon_value]
  go_wp2
  rw [Lib.run_from_unsafe w ⟨b, 0, none⟩ Tryz.underlying344 Tryz.underlying201 hj hsh bd_lies]
  simp only [Result.andThen]
  rw [Oper.upon_value]
  go_wp2
  go_end0
  exact ⟨rfl, rfl⟩

theorem bd_check (B b : Nat) (bs : List Value) (w : World) (h : Lib.IsBuilder 203 5 B b bs w) :
    Calls Tryz.prog 184 #[.pointer (some ⟨b, 0, none⟩)] w fun e w' => e = .returned (.tuple #[]) ∧ (Lib.BuilderAt 203 5 B b (.pointer (some ⟨b, 0, none⟩)) bs w' ∧ Below B w w') := by
  rcases h with h | h
  · refine (bd_check_fresh b w h.cell0 h.shape h.frozen0).mono ?_
    rintro e w' ⟨rfl, rfl⟩
    exact ⟨rfl, h.used _, (Below.refl B w).setCell (p := ⟨b, 0, none⟩) h.1 _⟩
  · refine (bd_check_used b w h.cell0).mono ?_
    rintro e w' ⟨rfl, rfl⟩
    exact ⟨rfl, h, Below.refl B _⟩

set_option maxHeartbeats 1000000 in
set_option maxRecDepth 100000 in
theorem bd_write (B b : Nat) (bs : List Value) (s : ByteArray) (w : World) (h : Lib.IsBuilder 203 5 B b bs w) (hlen : bs.length + s.size ≤ 140737488355328) (hBw : B ≤ w.heap.size) :
    Calls Tryz.prog 100 #[.pointer (some ⟨b, 0, none⟩), .string s] w fun e w' => e = .returned (.tuple #[.int .i64 s.size, .nilIface]) ∧ (Lib.BuilderAt 203 5 B b (.pointer (some ⟨b, 0, none⟩)) (bs ++ Lib.strCells s) w' ∧ Below B w w') := by
  obtain ⟨i0, hi, hz0, hz1, hz2⟩ := info_parts bd_byte
  go_enter Tryz.func100, Tryz.ntmps100
  go_wp2_with (go_at_call 184; refine (bd_check B b bs _ h).mono ?_)
  rintro e w1 ⟨rfl, h1, hb1⟩
  obtain ⟨hB, v, hbk, hown, hne⟩ := h1
  have c0 : w1.cell? ⟨b, 0, none⟩ = some (.pointer (some ⟨b, 0, none⟩)) := by rw [Lib.cell_of_heap hbk]; rfl
  have c1 : w1.cell? ⟨b, 1, none⟩ = some v := by rw [Lib.cell_of_heap hbk]; rfl
  go_wp2_with (at_builtin; refine Lib.wpList_append_own_string _ rfl _ _ 88 9 rfl B 5 i0 Tryz.underlying88 Tryz.underlying9 hi hz0 hz1 hz2 _ _ _ rfl hown s rfl ?c3 ?c4 ?c5 ?_)
  case c3 => unfold maxLen; omega
  case c4 => omega
  case c5 => have := hb1.size; omega
  intro v' w2 hown' hgrow _
  have hlt : b < w1.heap.size := by
    rcases Nat.lt_or_ge b w1.heap.size with h' | h'
    · exact h'
    · simp [Array.getElem?_eq_none h'] at hbk
  have hb2 : w2.heap[b]? = some (.cells #[.pointer (some ⟨b, 0, none⟩), v] 203 (0, 0)) := by
    rw [hgrow.block b hlt (fun e => hne e.symm)]
    exact hbk
  have d0 : w2.cell? ⟨b, 0, none⟩ = some (.pointer (some ⟨b, 0, none⟩)) := by rw [Lib.cell_of_heap hb2]; rfl
  have d1 : w2.cell? ⟨b, 1, none⟩ = some v := by rw [Lib.cell_of_heap hb2]; rfl
  have f1 : w2.frozen? ⟨b, 1, none⟩ = false := Lib.frozen_of_heap hb2 1
  obtain ⟨ao, n', cap, rfl⟩ : ∃ ao n' cap, v' = .slice ao n' cap := by
    rcases hown'.2 with ⟨hv, _⟩ | ⟨g, cap, cur, hv, _⟩
    · exact ⟨_, _, _, hv⟩
    · exact ⟨_, _, _, hv⟩
  go_wp2
  go_ret2
  refine ⟨rfl, ?_, ?_⟩
  · exact Lib.BuilderAt.put (T := 203) (e := 5) hB hb2 (bs' := bs ++ Lib.strCells s) (by simpa [Lib.strCells_length] using hown') (by decide)
  · exact (hb1.grown hgrow (by have := hb1.size; omega) (fun k hk => (hown.lt k hk).1)).setCell (p := ⟨b, 1, none⟩) hB _
end Go.Proofs.YthgclfhfipfknaaGreat
