/- Package spill: a stub that was written is read. -/
/- The law's payloads. -/
import Derived.Test.YthgclfhfipfknaaGreatPPF
namespace Go.Proofs.YthgclfhfipfknaaGreat
open Go.ChangeShapes Go.WideShapes Go.ChangeAt Go.RowKit Go.Maps
set_option linter.unusedVariables false

theorem beg_put (u : Nat) (hu : u ≤ 4000) (r : List UInt8) : Rec.beg (Rec.putL u ++ r) 0 0 = (u, Rec.vsz u) := by
  by_cases h : u < 128
  · have e : Rec.putL u = [UInt8.ofNat u] := by
      unfold Rec.putL
      rw [if_pos (by omega), show Rec.vsz u = 1 by unfold Rec.vsz; rw [if_pos h]]
      simp only [Nat.sub_self, Rec.lows, List.nil_append]
      rw [Nat.mod_eq_of_lt h]
    have e2 : (UInt8.ofNat u).toNat = u := by simp; omega
    rw [e, List.singleton_append, Rec.beg, if_neg (by omega), e2, if_pos h, show Rec.vsz u = 1 by unfold Rec.vsz; rw [if_pos h]]
    simp
  · have hv : Rec.vsz u = 2 := by unfold Rec.vsz; rw [if_neg h, if_pos (by omega)]
    have e : Rec.putL u = [Rec.hiB (u / 128), UInt8.ofNat (u % 128)] := by
      unfold Rec.putL
      rw [if_pos (by omega), hv]
      simp [Rec.lows]
    have e1 : (Rec.hiB (u / 128)).toNat = u / 128 + 128 := by unfold Rec.hiB; simp; omega
    have e2 : (UInt8.ofNat (u % 128)).toNat = u % 128 := by simp; omega
    rw [e, hv]
    simp only [List.cons_append, List.nil_append, Rec.beg]
    rw [if_neg (by omega), e1, if_neg (by omega), if_neg (by omega), e2, if_pos (by omega)]
    have q1 : (0 * 128 + (u / 128 + 128) % 128) * 128 + u % 128 = u := by omega
    rw [q1]
theorem vrd_put (u : Nat) (hu : u ≤ 4000) (r : List UInt8) : Rec.vrdU (Rec.putL u ++ r) = u ∧ Rec.vrdN (Rec.putL u ++ r) = Rec.vsz u := by
  unfold Rec.vrdU Rec.vrdN
  rw [beg_put u hu r]
  simp
/-- The stub of a payload whose chain begins at a page. -/
def stubB (s : ByteArray) (f : Nat) : ByteArray := if s.size ≤ 40 then ⟨(Rec.putL s.size).toArray⟩ ++ s else ⟨(Rec.putL s.size).toArray⟩ ++ s.extract 0 40 ++ cellB f
theorem app_toL (a b : ByteArray) : (a ++ b).data.toList = a.data.toList ++ b.data.toList := by simp
theorem mk_toL (l : List UInt8) : (⟨l.toArray⟩ : ByteArray).data.toList = l := by simp
theorem stubB_size (s : ByteArray) (f : Nat) : (stubB s f).size = if s.size ≤ 40 then Rec.vsz s.size + s.size else Rec.vsz s.size + 44 := by
  unfold stubB
  have h1 : (⟨(Rec.putL s.size).toArray⟩ : ByteArray).size = Rec.vsz s.size := by rw [ba_size, Rec.putL_length]
  split
  · rw [ByteArray.size_append, h1]
  · rw [ByteArray.size_append, ByteArray.size_append, h1, cellB_size, ByteArray.size_extract]; omega
theorem stubB_toL (s : ByteArray) (f : Nat) : ∃ r, (stubB s f).data.toList = Rec.putL s.size ++ r ∧ r.take (min s.size 40) = s.data.toList.take (min s.size 40) ∧ (40 < s.size → r.drop 40 = (cellB f).data.toList) := by
  have hl : s.data.toList.length = s.size := bytes_size s
  unfold stubB
  split
  · rename_i h
    refine ⟨s.data.toList, by rw [app_toL, mk_toL], rfl, fun h2 => by omega⟩
  · rename_i h
    have e : (s.extract 0 40).data.toList = s.data.toList.take 40 := by
      rw [ByteArray.data_extract, Array.toList_extract, List.extract_eq_take_drop, List.drop_zero]
    refine ⟨s.data.toList.take 40 ++ (cellB f).data.toList, by rw [app_toL, app_toL, mk_toL, e, List.append_assoc], ?_, fun _ => ?_⟩
    · rw [Nat.min_eq_right (by omega), List.take_append_of_le_length (by rw [List.length_take]; omega), List.take_take, Nat.min_self]
    · rw [List.drop_append_of_le_length (by rw [List.length_take]; omega), List.drop_of_length_le (by rw [List.length_take]; omega), List.nil_append]
theorem cellB_nmF (f : Nat) (hf : f < 4294967296) (l : List UInt8) (e : Nat) (h : ∀ j, j < 4 → byt l (e + j) = byt (cellB f).data.toList j) : nmF l e 4 = f := by
  have h0 := h 0 (by omega)
  have h1 := h 1 (by omega)
  have h2 := h 2 (by omega)
  have h3 := h 3 (by omega)
  simp only [nmF, h0, h1, h2, h3]
  simp [byt, cellB]
  omega
theorem byt_app (a b : List UInt8) (k j : Nat) (h : a.length ≤ k) : byt (a ++ b) (k + j) = byt b (k - a.length + j) := by
  unfold byt
  rw [List.getElem?_append_right (by omega), show k + j - a.length = k - a.length + j by omega]
/-- A stub, with whatever behind it. -/
theorem stub_read (s : ByteArray) (f : Nat) (hs : s.size ≤ 4000) (hf : f < 4294967296) (x : ByteArray) : rdOk (stubB s f ++ x) ∧ rdU (stubB s f ++ x) = s.size ∧ rdSz (stubB s f ++ x) = (stubB s f).size ∧ (rdH (stubB s f ++ x)).data.toList = s.data.toList.take 40 ∧ (s.size ≤ 40 → rdF (stubB s f ++ x) = 0) ∧ (40 < s.size → rdF (stubB s f ++ x) = f) := by
  have hl : s.data.toList.length = s.size := bytes_size s
  have hz := stubB_size s f
  obtain ⟨r, h1, h2, h3⟩ := stubB_toL s f
  have hrl : r.length = (stubB s f).size - Rec.vsz s.size := by
    have : (stubB s f).data.toList.length = (stubB s f).size := bytes_size _
    rw [h1, List.length_append, Rec.putL_length] at this
    omega
  have ht : (stubB s f ++ x).data.toList = Rec.putL s.size ++ (r ++ x.data.toList) := by rw [app_toL, h1, List.append_assoc]
  have hsz : (stubB s f ++ x).size = (stubB s f).size + x.size := ByteArray.size_append
  obtain ⟨v1, v2⟩ := vrd_put s.size hs (r ++ x.data.toList)
  have hv := Rec.vsz_pos s.size
  have a1 : rdA (stubB s f ++ x) = Rec.vsz s.size := by unfold rdA; rw [ht, v2]
  have a2 : rdU (stubB s f ++ x) = s.size := by unfold rdU; rw [ht, v1]
  have a3 : rdEnd (stubB s f ++ x) = Rec.vsz s.size + min s.size 40 := by unfold rdEnd; rw [a1, a2]
  have a4 : rdSz (stubB s f ++ x) = (stubB s f).size := by
    unfold rdSz
    rw [a2, a3, hz]
    by_cases h : s.size ≤ 40
    · rw [if_neg (by omega), if_pos h]; omega
    · rw [if_pos (by omega), if_neg h]; omega
  have a5 : rdOk (stubB s f ++ x) := ⟨by rw [a1]; omega, by rw [a2]; exact hs, by rw [a4, hsz]; omega⟩
  refine ⟨a5, a2, a4, ?_, fun h => ?_, fun h => ?_⟩
  · unfold rdH
    rw [a1, a3, ByteArray.data_extract, Array.toList_extract, List.extract_eq_take_drop, ht, List.drop_append_of_le_length (by rw [Rec.putL_length]; exact Nat.le_refl _), List.drop_of_length_le (by rw [Rec.putL_length]; exact Nat.le_refl _), List.nil_append, Nat.add_sub_cancel_left]
    rw [List.take_append_of_le_length (by rw [hrl, hz]; split <;> omega), h2]
    rcases Nat.le_total s.size 40 with h | h
    · rw [Nat.min_eq_left h, List.take_of_length_le (by omega), List.take_of_length_le (by omega)]
    · rw [Nat.min_eq_right h]
  · unfold rdF
    rw [a3, a4, hz, if_pos h, show Rec.vsz s.size + s.size - (Rec.vsz s.size + min s.size 40) = 0 by omega]
    rfl
  · unfold rdF
    rw [a3, a4, hz, if_neg (by omega), show Rec.vsz s.size + 44 - (Rec.vsz s.size + min s.size 40) = 4 by omega]
    refine cellB_nmF f hf _ _ (fun j hj => ?_)
    rw [ht, byt_app _ _ _ _ (by rw [Rec.putL_length]; omega), Rec.putL_length, show Rec.vsz s.size + min s.size 40 - Rec.vsz s.size + j = 40 + j by omega]
    unfold byt
    rw [List.getElem?_append_left (by rw [hrl, hz, if_neg (by omega)]; omega), ← h3 h, List.getElem?_drop]
/-- What is found of a stub whose chain is there. -/
theorem stub_found {P : Nat → List UInt8} {m f : Nat} {s x : ByteArray} {G : List Nat} (hs : s.size ≤ 4000) (hf : f < 4294967296) (h : s.size ≤ 40 → G = []) (hc : 40 < s.size → Cn P m f (s.data.toList.drop 40) G) : foundR P m (stubB s f ++ x) = some (s.data.toList, G) := by
  obtain ⟨a1, a2, a3, a4, a5, a6⟩ := stub_read s f hs hf x
  have hl : s.data.toList.length = s.size := bytes_size s
  have hH : (rdH (stubB s f ++ x)).size = min s.size 40 := by rw [rdH_size _ a1, a2]
  unfold foundR
  rw [if_pos a1]
  unfold fdR
  rw [a2, hH, a4]
  by_cases h40 : s.size ≤ 40
  · rw [a5 h40, h h40, show s.size - min s.size 40 = 0 by omega, fnd_end, if_pos rfl, List.take_of_length_le (by omega)]
  · have hcn := hc (by omega)
    have := hcn.fnd 4000 (s.data.toList.take 40) [] (by rw [List.length_drop]; omega)
    rw [List.length_drop, hl, List.take_append_drop, List.nil_append] at this
    rw [a6 (by omega), show s.size - min s.size 40 = s.size - 40 by omega]
    exact this
end Go.Proofs.YthgclfhfipfknaaGreat

namespace Go.Proofs.YthgclfhfipfknaaGreat
open Go.ChangeShapes Go.WideShapes Go.ChangeAt Go.RowKit Go.Maps
set_option linter.unusedVariables false

def mN (N : Int) : Nat := (BitVec.ofInt 64 N).toNat &&& 4095
theorem mN_le (N : Int) : mN N ≤ 4095 := Nat.and_le_right
theorem and4095 (N : Int) : bits BinOp.and IntKind.i64 N 4095 = (mN N : Int) := by
  have h := mN_le N
  unfold bits
  show IntKind.i64.wrap ((BitVec.ofInt 64 N &&& BitVec.ofInt 64 4095).toNat : Int) = _
  rw [BitVec.toNat_and, show (BitVec.ofInt 64 4095).toNat = 4095 by decide]
  show IntKind.i64.wrap ((mN N : Nat) : Int) = _
  rw [IntKind.wrap_i64]
  omega
def plF (B : Nat) (i : Nat) : UInt8 := UInt8.ofNat (B + i)
def plL (B m : Nat) : List UInt8 := (List.range m).map (plF B)
theorem plL_length (B m : Nat) : (plL B m).length = m := by simp [plL]
theorem plL_succ (B m : Nat) : plL B (m + 1) = plL B m ++ [plF B m] := by simp [plL, List.range_succ]
/-- The payload of a step. -/
def plB (N : Int) (B : Nat) (data : ByteArray) : ByteArray := ⟨(plL B (mN N)).toArray⟩ ++ data
def opA (d : Bool) (N : Int) (B : Nat) (data : ByteArray) : Array Value := #[.bool d, .int .i64 N, .int .u8 (B : Int), .string data]
theorem made_bcs (m : Nat) : madeCells #[Value.int .u8 0] m = (Rec.bcs (List.replicate m 0)).toArray := Rec.made_zeros m
theorem pl_set (B k r : Nat) : (plL B k ++ List.replicate (r + 1) 0).set k (plF B k) = plL B (k + 1) ++ List.replicate r 0 := by
  rw [List.set_append_right _ _ (by rw [plL_length]; exact Nat.le_refl _), plL_length, Nat.sub_self, plL_succ, List.replicate_succ, List.set_cons_zero]
  simp
set_option maxRecDepth 100000 in
set_option maxHeartbeats 1000000 in
theorem payload_e (w : World) (d : Bool) (N : Int) (B : Nat) (hB : B < 256) (data : ByteArray) (hd : data.size ≤ 140737488355328) : Calls Tryz.prog 11 #[.agg (opA d N B data)] w fun e w' => e = .returned (.string (plB N B data)) ∧ Below w.heap.size w w' := by
  obtain ⟨m, hm⟩ : ∃ m, mN N = m := ⟨_, rfl⟩
  have hm4 := mN_le N
  have hand := and4095 N
  rw [hm] at hm4 hand
  obtain ⟨i0, hi0, hz0, hz1, hz2⟩ := info_parts Rec.info5'
  obtain ⟨w1, hw1⟩ : ∃ w1, w1 = w.alloc (.cells (opA d N B data) 34) := ⟨_, rfl⟩
  have hr := run_make (P := Tryz.prog) w1 88 5 i0 (.int .u8 0) Tryz.underlying88 hi0 hz0 .i64 .i64 m m (by omega) (by omega) (by rw [hz2]; omega) (by omega)
  simp only [Int.toNat_natCast] at hr
  have hb1 : Below w.heap.size w w1 := by rw [hw1]; exact below_alloc _ _
  have k1 : Blk w1 w.heap.size (opA d N B data) 34 := by rw [hw1]; exact Blk.new _ _ _
  have hs1 : w.heap.size < w1.heap.size := k1.lt
  obtain ⟨W2, hW2⟩ : ∃ W2, W2 = w1.alloc (.cells (madeCells (Value.int IntKind.u8 0).cells (m * i0.size)) 5) := ⟨_, rfl⟩
  have HB2 : Hid (Below w.heap.size w W2) := hide (by rw [hW2]; exact below_trans hb1 (below_alloc _ _))
  have HX2 : Hid (Blk W2 w.heap.size (opA d N B data) 34) := hide (by rw [hW2]; exact k1.later (below_alloc _ _))
  have HZ2 : Hid (Blk W2 w1.heap.size (Rec.bcs (List.replicate m 0)).toArray 5) := hide (by
    rw [hW2, hz1, Nat.mul_one, ← made_bcs]; exact Blk.new _ _ _)
  rw [← hW2, hw1] at hr
  have c1 : w1.cell? ⟨w.heap.size, 1, none⟩ = some (.int .i64 N) := k1.cell 1
  rw [hw1] at c1
  have HP : Hid (plB N B data = ⟨(plL B m).toArray⟩ ++ data) := by show _ = _; unfold plB; rw [hm]
  rw [HP.out]
  have HS1 := hide hs1
  rw [hw1] at HS1 HZ2
  generalize hg : (w.alloc (.cells (opA d N B data) 34)).heap.size = g at *
  have HCat : Hid (∀ V, (Op.stringOp BinOp.add ⟨(plL B m).toArray⟩ data).run Tryz.prog V = .ok (.string (⟨(plL B m).toArray⟩ ++ data)) V) := hide (fun V => run_string_add_sum V _ _ (by rw [ba_size, plL_length]; omega))
  unfold opA at hr c1
  unfold opA
  clear hm k1 HP hb1 hW2 hz1 hz2 hi0 hz0 hw1 hs1
  go_enter Tryz.func11, Tryz.ntmps11
  go_wp2_with fail
  clear hr c1
  go_loopw [4] (fun iv wr => ∃ k r : Nat, iv = .int .i64 (k : Int) ∧ k + r = m ∧ Blk wr g (Rec.bcs (plL B k ++ List.replicate r 0)).toArray 5 ∧ Blk wr w.heap.size (opA d N B data) 34 ∧ Below w.heap.size w wr) (fun iv _ => m - (intOf iv).toNat)
  case atStart => exact ⟨0, m, rfl, by omega, by simpa [plL] using HZ2.out, HX2.out, HB2.out⟩
  case round =>
    obtain ⟨k, r, rfl, hk, hz, hx, hbw⟩ := hrel
    have HZ := hide hz
    have HX := hide hx
    have HB := hide hbw
    cases r with
    | zero =>
      obtain rfl : k = m := by omega
      have l1 : ¬ (k : Int) < (k : Int) := by omega
      have c3 : wr.cell? ⟨w.heap.size, 3, none⟩ = some (.string data) := hx.cell 3
      have hcv := fun V (hV : V = wr) => conv_piece V g 0 k (plL B k) (fun j hj => by
        subst hV
        rw [Nat.zero_add, hz.cell, List.replicate_zero, List.append_nil, Rec.bcs_at _ _ hj]
        simp [byt, hj])
      have hcv := hcv wr rfl
      rw [plL_length] at hcv
      have hcat := HCat.out
      clear hz hx hbw
      go_wp2_with fail
      go_ret
      exact ⟨rfl, HB.out⟩
    | succ r =>
      have l1 : (k : Int) < (m : Int) := by omega
      have l0 : (0 : Int) ≤ (k : Int) := by omega
      have c2 : wr.cell? ⟨w.heap.size, 2, none⟩ = some (.int .u8 (B : Int)) := hx.cell 2
      have hJl : k < (plL B k ++ List.replicate (r + 1) (0 : UInt8)).length := by rw [List.length_append, plL_length, List.length_replicate]; omega
      have cz : wr.cell? ⟨g, k, none⟩ = some (.int .u8 (((plL B k ++ List.replicate (r + 1) (0 : UInt8))[k]'hJl).toNat : Int)) := by rw [hz.cell, Rec.bcs_at _ _ hJl]
      have fz := hz.frozen k
      have w1' : IntKind.i64.wrap ((k : Int) + 1) = ((k + 1 : Nat) : Int) := by rw [IntKind.wrap_i64]; omega
      have hv : ((B : Int) + (k : Int)) % 256 = ((plF B k).toNat : Int) := by
        unfold plF
        rw [UInt8.toNat_ofNat']
        omega
      have hset : Blk (wr.setCell ⟨g, k, none⟩ (.int .u8 (((B : Int) + (k : Int)) % 256))) g (Rec.bcs (plL B (k + 1) ++ List.replicate r 0)).toArray 5 := by
        have := hz.set k (.int .u8 (((B : Int) + (k : Int)) % 256))
        rw [hv, Rec.bcs_set, pl_set] at this
        rw [hv]
        exact this
      have HN := hide (And.intro hset (And.intro (hx.setOther (show w.heap.size ≠ g by have := HS1.out; omega) k (.int .u8 (((B : Int) + (k : Int)) % 256))) (hbw.trans ((Only.setCell wr ⟨g, k, none⟩ (.int .u8 (((B : Int) + (k : Int)) % 256))).below hbw.size (fun j hj => by have := HS1.out; simp at hj; omega)))))
      clear hz hx hbw hset hv w1'
      go_wp2_with fail
      refine ⟨⟨k + 1, r, by simp, by omega, HN.out.1, HN.out.2.1, HN.out.2.2⟩, ?_⟩
      simp [intOf]
      omega
end Go.Proofs.YthgclfhfipfknaaGreat
