/- Some answers that the document fixes: what is seen, step by step. -/
/- Some answers that the document fixes: what awake's calls answer. -/
import Derived.Test.YtfcgjedanhmpiaaJP
namespace Go.Proofs.Ytfcgjedanhmpiaa
open Go.ChangeShapes Go.WideShapes Go.ChangeAt Go.RowKit
open Go.ChangeMaps (setBlock)
set_option linter.unusedVariables false
set_option maxRecDepth 100000

def f0 : Vw := fun _ => []
def S1a : Nat → Stp := catS (renS (f0 nmJ)) 2 (tailS 1 0)
def S2a : Nat → Stp := catS (pgS aN aL) 2 (endS 2)
theorem sz_seal (a b c d : Nat) : (bstr (sealB a b c d)).size = 64 := by
  have := sealB_length a b c d
  simp [bstr, ByteArray.size, this]
theorem sz_full (x : UInt8) : (bstr (fullL x)).size = 256 := by
  have := fullL_length x
  simp [bstr, ByteArray.size, this]
theorem len_wseen (l : List UInt8) (a : Nat) (s : List UInt8) : (wseen l a s).length = max l.length (a + s.length) := length_wseen l a s
theorem bl (l : List UInt8) : (bstr l).data.toList = l := by simp [bstr]
def v1 : Vw := vw f0 S1a 5
theorem nDJ : nmD ≠ nmJ := by decide
theorem v1D : v1 nmD = [] := rfl
theorem vJ1 : vw f0 S1a 1 nmJ = wseen [] 0 (sealB (hdw [] 0) (hdw [] 1) (hdw [] 2) (hdw [] 3)) := by
  have e : vw f0 S1a 1 nmJ = wseen (f0 nmJ) 0 (hdS (f0 nmJ)).data.toList := rfl
  rw [e]; unfold hdS; rw [bl]; rfl
theorem vJ1_len : (vw f0 S1a 1 nmJ).length = 64 := by rw [vJ1, len_wseen, sealB_length]; rfl
theorem v1J_len : (v1 nmJ).length = 64 := by
  have e : v1 nmJ = wseen (vw f0 S1a 1 nmJ) 0 (bstr (sealB 1 0 0 0)).data.toList := rfl
  rw [e, len_wseen, vJ1_len, bl, sealB_length]; rfl
theorem ok1 : ∀ k, k < 5 → (S1a k).ok (vw f0 S1a k) ∧ (S1a k).fits 5000 (vw f0 S1a k) := fun k hk => by
  rcases (show k = 0 ∨ k = 1 ∨ k = 2 ∨ k = 3 ∨ k = 4 by omega) with rfl | rfl | rfl | rfl | rfl
  · have h := sz_seal (hdw [] 0) (hdw [] 1) (hdw [] 2) (hdw [] 3)
    have h' : (hdS []).size = 64 := h
    refine ⟨⟨.inr rfl, ?_, ?_, ?_⟩, .inr ?_⟩
    · show 0 < (hdS []).size; omega
    · show (hdS []).size ≤ 2000; omega
    · show 0 + (hdS []).size ≤ 6100; omega
    · show ((0 : Nat) : Int) + ((0 + (hdS []).size : Nat) - ((0 : Nat) : Int)) ≤ 5000; omega
  · exact ⟨trivial, trivial⟩
  · exact ⟨trivial, trivial⟩
  · have h := sz_seal 1 0 0 0
    refine ⟨⟨.inr rfl, ?_, ?_, ?_⟩, .inl ?_⟩
    · show 0 < (bstr (sealB 1 0 0 0)).size; omega
    · show (bstr (sealB 1 0 0 0)).size ≤ 2000; omega
    · show 0 + (bstr (sealB 1 0 0 0)).size ≤ 6100; omega
    · show 0 + (bstr (sealB 1 0 0 0)).size ≤ (vw f0 S1a 1 nmJ).length; rw [vJ1_len]; omega
  · exact ⟨trivial, trivial⟩
def d1 : List UInt8 := wseen [] 0 (fullL one8)
def d2 : List UInt8 := wseen d1 256 (fullL two8)
theorem d1_len : d1.length = 256 := by unfold d1; rw [len_wseen, fullL_length]; rfl
theorem d2_len : d2.length = 512 := by unfold d2; rw [len_wseen, fullL_length, d1_len]; rfl
theorem e1D : vw v1 S2a 1 nmD = d1 := by
  have e : vw v1 S2a 1 nmD = wseen (v1 nmD) (256 * (1 - 1)) (bstr (fullL one8)).data.toList := rfl
  rw [e, bl, v1D]; rfl
theorem e2D : vw v1 S2a 2 nmD = d2 := by
  have e : vw v1 S2a 2 nmD = wseen (vw v1 S2a 1 nmD) (256 * (2 - 1)) (bstr (fullL two8)).data.toList := rfl
  rw [e, bl, e1D]; rfl
theorem e2J : vw v1 S2a 2 nmJ = v1 nmJ := rfl
theorem e4J : vw v1 S2a 4 nmJ = v1 nmJ := rfl
theorem e3D : vw v1 S2a 3 nmD = d2 := by
  have e : vw v1 S2a 3 nmD = rsz (vw v1 S2a 2 nmD) (256 * 2) := rfl
  rw [e, e2D]
  unfold rsz
  rw [if_pos (by rw [d2_len]; omega), List.take_of_length_le (by rw [d2_len]; omega)]
theorem e6D : vw v1 S2a 6 nmD = d2 := e3D
theorem e6J : vw v1 S2a 6 nmJ = wseen (v1 nmJ) 0 (sealB 0 0 0 0) := by
  have e : vw v1 S2a 6 nmJ = wseen (vw v1 S2a 4 nmJ) 0 (bstr (sealB 0 0 0 0)).data.toList := rfl
  rw [e, bl, e4J]
theorem ok2 : ∀ k, k < 2 + 4 → (S2a k).ok (vw v1 S2a k) ∧ (S2a k).fits 5000 (vw v1 S2a k) := fun k hk => by
  rcases (show k = 0 ∨ k = 1 ∨ k = 2 ∨ k = 3 ∨ k = 4 ∨ k = 5 by omega) with rfl | rfl | rfl | rfl | rfl | rfl
  · have h := sz_full one8
    refine ⟨⟨.inl rfl, ?_, ?_, ?_⟩, .inr ?_⟩
    · show 0 < (bstr (fullL one8)).size; omega
    · show (bstr (fullL one8)).size ≤ 2000; omega
    · show 256 * (1 - 1) + (bstr (fullL one8)).size ≤ 6100; omega
    · show (((v1 nmD).length + (v1 nmJ).length : Nat) : Int) + ((256 * (1 - 1) + (bstr (fullL one8)).size : Nat) - ((v1 nmD).length : Int)) ≤ 5000
      rw [v1J_len, v1D]; simp; omega
  · have h := sz_full two8
    refine ⟨⟨.inl rfl, ?_, ?_, ?_⟩, .inr ?_⟩
    · show 0 < (bstr (fullL two8)).size; omega
    · show (bstr (fullL two8)).size ≤ 2000; omega
    · show 256 * (2 - 1) + (bstr (fullL two8)).size ≤ 6100; omega
    · have eJ : vw v1 S2a 1 nmJ = v1 nmJ := rfl
      show (((vw v1 S2a 1 nmD).length + (vw v1 S2a 1 nmJ).length : Nat) : Int) + ((256 * (2 - 1) + (bstr (fullL two8)).size : Nat) - ((vw v1 S2a 1 nmD).length : Int)) ≤ 5000
      rw [eJ, v1J_len, e1D, d1_len]; omega
  · refine ⟨⟨.inl rfl, ?_, ?_⟩, trivial⟩
    · show 256 * 2 ≤ 6100; omega
    · show 256 * 2 ≤ (vw v1 S2a 2 nmD).length; rw [e2D, d2_len]; omega
  · exact ⟨trivial, trivial⟩
  · have h := sz_seal 0 0 0 0
    refine ⟨⟨.inr rfl, ?_, ?_, ?_⟩, .inl ?_⟩
    · show 0 < (bstr (sealB 0 0 0 0)).size; omega
    · show (bstr (sealB 0 0 0 0)).size ≤ 2000; omega
    · show 0 + (bstr (sealB 0 0 0 0)).size ≤ 6100; omega
    · show 0 + (bstr (sealB 0 0 0 0)).size ≤ (vw v1 S2a 4 nmJ).length; rw [e4J, v1J_len]; omega
  · exact ⟨trivial, trivial⟩
theorem pg2 : pgL d2 2 = fullL two8 := by
  have hf := fullL_length two8
  have hg : (grownTo d1 (256 + (fullL two8).length)).length = 512 := by
    rw [length_grownTo, d1_len, hf]; rfl
  have ht : (List.take 256 (grownTo d1 (256 + (fullL two8).length))).length = 256 := by
    rw [List.length_take, hg]; rfl
  unfold pgL d2 wseen splice
  rw [show 256 * (2 - 1) = 256 from rfl, List.drop_append_of_le_length (by omega), List.drop_of_length_le (by omega), List.nil_append, List.take_append_of_le_length (by omega), List.take_of_length_le (by omega)]
theorem cold0 : hdw (f0 nmJ) 0 = 0 := rfl
end Go.Proofs.Ytfcgjedanhmpiaa

namespace Go.Proofs.Ytfcgjedanhmpiaa
open Go.ChangeShapes Go.WideShapes Go.ChangeAt Go.RowKit
open Go.ChangeMaps (setBlock)
set_option linter.unusedVariables false
set_option maxRecDepth 100000

theorem hot6 : hdw (vw v1 S2a 6 nmJ) 0 = 0 := by
  have hl := v1J_len
  have hs := sealB_length 0 0 0 0
  have e : wseen (v1 nmJ) 0 (sealB 0 0 0 0) = sealB 0 0 0 0 := by
    have hg : (grownTo (v1 nmJ) (0 + (sealB 0 0 0 0).length)).length = 64 := by rw [length_grownTo, hl, hs]; rfl
    unfold wseen splice
    rw [List.take_zero, List.nil_append, List.drop_of_length_le (by omega), List.append_nil]
  rw [e6J, e]
  decide +kernel
theorem grown_below {w W W' : World} (h : w.heap.size ≤ W.heap.size) (hg : W.grownBy W' none) : Below w.heap.size W W' := (Only.of_grown hg).below h (fun k hk => by cases hk)
structure Aw (w W : World) (D : DS) : Prop where
  rep : ∃ who, Rep W w.heap.size (w.heap.size + 1) D who
  bel : Below w.heap.size w W
theorem Aw.grown {w W W' : World} {D : DS} (h : Aw w W D) (hg : W.grownBy W' none) : Aw w W' D :=
  ⟨h.rep.imp fun who R => R.keep hg, h.bel.trans (grown_below h.bel.size hg)⟩
structure Aw2 (w W : World) : Prop where
  ex : ∃ D, Aw w W D ∧ JI 5000 D (0 + 5 + (2 + 4)) ∧ seenOf D nmD = d2 ∧ hdw (seenOf D nmJ) 0 = 0
theorem Aw2.grown {w W W' : World} (h : Aw2 w W) (hg : W.grownBy W' none) : Aw2 w W' := by
  obtain ⟨D, a, b, c⟩ := h.ex
  exact ⟨D, a.grown hg, b, c⟩
theorem Aw2.bel {w W : World} (h : Aw2 w W) : Below w.heap.size w W := by
  obtain ⟨D, a, b, c⟩ := h.ex
  exact a.bel
def fr (w : World) : DS := DS.fresh w.heap.size 5000
theorem seen_fresh (w : World) : seenOf (fr w) = f0 := rfl
theorem aw_new (w : World) : Calls Try.prog 12 #[.int .i64 5000] w fun e w' => e = .returned (.pointer (some ⟨w.heap.size + 1, 0, none⟩)) ∧ Aw w w' (fr w) :=
  Calls.mono (new_any w 5000 (by decide)) (fun e w' h => ⟨h.1, ⟨h.2.2, grown_below (Nat.le_refl _) h.2.1⟩⟩)
theorem cm_a (w V : World) (h : Aw w V (fr w)) (p : Option Addr) (cap : Nat) (hp : PgA V p 2 (fun k => (aN k : Int)) aL) :
    Calls Try.prog 8 #[.pointer (some ⟨w.heap.size + 1, 0, none⟩), .int .i64 2, .slice p 2 cap] V fun e w' => e = .returned (.int .i64 0) ∧ Aw2 w w' := by
  obtain ⟨who, R⟩ := h.rep
  have hJ : JI 5000 (fr w) 0 := JI.fresh _ _
  have := commit_none V w.heap.size (w.heap.size + 1) (fr w) who R hJ 2 0 (by rw [seen_fresh]; rfl) p 2 cap aN aL hp (by omega) (by omega) may2 (by rw [seen_fresh]; exact cold0) (by omega)
    (fun j hj => by unfold aN; omega) (by rw [seen_fresh]; exact ok1) (by rw [seen_fresh]; exact ok2)
  rw [seen_fresh] at this
  refine Calls.mono this ?_
  rintro e w' ⟨rfl, D', who', hm, hj, hs⟩
  refine ⟨rfl, D', ⟨⟨who', hm.rep⟩, h.bel.trans (hm.mv.below R)⟩, hj, ?_, ?_⟩
  · rw [hs]; exact e6D
  · rw [hs]; exact hot6
theorem pg_a (w V : World) (h : Aw2 w V) : Calls Try.prog 6 #[.pointer (some ⟨w.heap.size + 1, 0, none⟩), .int .i64 2] V fun e w' => e = .returned (.tuple #[.agg (bcs (fullL two8)).toArray, .int .i64 0]) ∧ V.grownBy w' none := by
  obtain ⟨D, ha, hj, hs, hh⟩ := h.ex
  obtain ⟨who, R⟩ := ha.rep
  have := pageF_j V _ _ D who R hj 2 (by omega) (by rw [hs, d2_len]; omega)
  rw [hs, pg2] at this
  exact this
theorem cm_b (w V : World) (h : Aw2 w V) (p : Option Addr) (cap : Nat) (hp : PgA V p 1 (fun _ => 4) (fun _ => z256)) :
    Calls Try.prog 8 #[.pointer (some ⟨w.heap.size + 1, 0, none⟩), .int .i64 4, .slice p 1 cap] V fun e w' => e = .returned (.int .i64 2) ∧ V.grownBy w' none := by
  obtain ⟨D, ha, hj, hs, hh⟩ := h.ex
  obtain ⟨who, R⟩ := ha.rep
  exact commit_arg V _ _ D who R hj 4 2 (by rw [hs, d2_len]) p 1 cap _ _ hp (by omega) may4
theorem ct_a (w V : World) (h : Aw2 w V) : Calls Try.prog 9 #[.pointer (some ⟨w.heap.size + 1, 0, none⟩)] V fun e w' => e = .returned (.int .i64 2) ∧ V.grownBy w' none := by
  obtain ⟨D, ha, hj, hs, hh⟩ := h.ex
  obtain ⟨who, R⟩ := ha.rep
  have := count_j V _ _ D who R hj
  rw [hs, d2_len] at this
  exact this
theorem ht_a (w V : World) (h : Aw2 w V) : Calls Try.prog 10 #[.pointer (some ⟨w.heap.size + 1, 0, none⟩)] V fun e w' => e = .returned (.bool false) ∧ V.grownBy w' none := by
  obtain ⟨D, ha, hj, hs, hh⟩ := h.ex
  obtain ⟨who, R⟩ := ha.rep
  exact hot_j V _ _ D who R hj false (by rw [hh]; rfl)
end Go.Proofs.Ytfcgjedanhmpiaa
