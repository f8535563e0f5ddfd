/- Rows of long elements; a record is read. -/
/- A record is read. -/
import Derived.Test.YtfcgjedanhmpiaaAKD
namespace Go.Proofs.Ytfcgjedanhmpiaa
open Go.ChangeShapes Go.WideShapes Go.ChangeAt Go.RowKit
open Go.ChangeMaps (setBlock)
set_option linter.unusedVariables false

/-- The cells of a row of elements. -/
def rowsC (C : Nat → List Value) : Nat → List Value
  | 0 => []
  | k + 1 => rowsC C k ++ C k
theorem rowsC_length {C : Nat → List Value} {s : Nat} : ∀ {k : Nat}, (∀ j, j < k → (C j).length = s) → (rowsC C k).length = k * s
  | 0, _ => by simp [rowsC]
  | k + 1, h => by
    rw [rowsC, List.length_append, rowsC_length (fun j hj => h j (by omega)), h k (by omega), Nat.succ_mul]
theorem rowsC_get {C : Nat → List Value} {s : Nat} : ∀ {k : Nat}, (∀ j, j < k → (C j).length = s) → ∀ j i, j < k → i < s → (rowsC C k)[j * s + i]? = (C j)[i]?
  | 0, _, j, i, hj, _ => by omega
  | k + 1, h, j, i, hj, hi => by
    have hl := rowsC_length (k := k) (fun j hj => h j (by omega))
    rw [rowsC]
    by_cases e : j < k
    · have h1 : j * s + s ≤ k * s := by rw [← Nat.succ_mul]; exact Nat.mul_le_mul_right s e
      rw [List.getElem?_append_left (by omega)]
      exact rowsC_get (fun j hj => h j (by omega)) j i e hi
    · obtain rfl : j = k := by omega
      rw [List.getElem?_append_right (by omega), hl, Nat.add_sub_cancel_left]
theorem rowsC_congr {C C' : Nat → List Value} : ∀ {k : Nat}, (∀ j, j < k → C j = C' j) → rowsC C k = rowsC C' k
  | 0, _ => rfl
  | k + 1, h => by rw [rowsC, rowsC, rowsC_congr (fun j hj => h j (by omega)), h k (by omega)]
theorem own_rows {w : World} {base e s k : Nat} {v : Value} {C : Nat → List Value} (h : w.ownsRow base e s v k (rowsC C k)) (hC : ∀ j, j < k → (C j).length = s) : ∃ p cap, v = .slice p k cap ∧ (0 < k → ∃ g, ∃ cur : Array Value, p = some ⟨g, 0, none⟩ ∧ Blk w g cur e ∧ base ≤ g ∧ k * s ≤ cur.size ∧ ∀ j, j < k → w.rangeAt g (j * s) (C j)) := by
  rcases h.2 with ⟨rfl, hz⟩ | ⟨g, cap, cur, rfl, hbg, hg, hnc, hcm, hcs, htake⟩
  · subst hz
    exact ⟨none, 0, rfl, fun h0 => by omega⟩
  · refine ⟨some ⟨g, 0, none⟩, cap, rfl, fun _ => ⟨g, cur, rfl, hg, hbg, ?_, fun j hj i v hv => ?_⟩⟩
    · have := congrArg List.length htake
      rw [List.length_take, rowsC_length hC] at this
      have h2 : cur.toList.length = cur.size := by simp
      omega
    · have hi : i < s := by have := (List.getElem?_eq_some_iff.1 hv).1; rw [hC j hj] at this; exact this
      rw [Blk.cell hg]
      have h1 := rowsC_get hC j i hj hi
      rw [← htake, List.getElem?_take, if_pos (by have : j * s + s ≤ k * s := by { rw [← Nat.succ_mul]; exact Nat.mul_le_mul_right s hj }; omega)] at h1
      rw [← Array.getElem?_toList, h1]
      exact hv
theorem own_PgA {w : World} {base k : Nat} {v : Value} {T : Nat → Int} {P : Nat → List UInt8} (hP : ∀ j, j < k → (P j).length = 256) (h : w.ownsRow base 67 257 v k (rowsC (fun j => pcl (T j) (P j)) k)) : ∃ p cap, v = .slice p k cap ∧ PgA w p k T P := by
  obtain ⟨p, cap, e, hA⟩ := own_rows h (fun j hj => pcl_length _ (hP j hj))
  refine ⟨p, cap, e, fun h0 => ?_⟩
  obtain ⟨g, cur, e2, hb, _, _, hr⟩ := hA h0
  exact ⟨g, cur, e2, hb, fun j hj => ⟨hP j hj, hr j hj⟩⟩
theorem atApp22 {P : Program} {ops : Array Oper} {Q : Exit → Act → World → Prop} {d : Option Tmp} {x y : Operand} {ty : TypeId} {pos : String} {af : Array Edge} {gd : Option (Nat × Bool)} {rest : List Oper} {a : Act} {w : World} (h : wpList P ops Q ({ dst := d, op := .call { callee := .builtin .append, args := #[x, y], argTypes := #[22, 22] }, type := ty, pos := pos, after := af, guard := gd } :: rest) a w) : wpList P ops Q ({ dst := d, op := .call { callee := .builtin .append, args := #[x, y], argTypes := #[22, 22] }, type := ty, pos := pos, after := af, guard := gd } :: rest) a w := h
theorem atApp39 {P : Program} {ops : Array Oper} {Q : Exit → Act → World → Prop} {d : Option Tmp} {x y : Operand} {ty : TypeId} {pos : String} {af : Array Edge} {gd : Option (Nat × Bool)} {rest : List Oper} {a : Act} {w : World} (h : wpList P ops Q ({ dst := d, op := .call { callee := .builtin .append, args := #[x, y], argTypes := #[39, 39] }, type := ty, pos := pos, after := af, guard := gd } :: rest) a w) : wpList P ops Q ({ dst := d, op := .call { callee := .builtin .append, args := #[x, y], argTypes := #[39, 39] }, type := ty, pos := pos, after := af, guard := gd } :: rest) a w := h
theorem built67z (n : Int) : Try.prog.built 67 [(0, .int .i64 n)] = some (pcl n z256).toArray := by
  have hz : Try.zeroCells67.size = 257 := by kernel_rfl
  rw [built67_fill, fill_step (off := 0) (size := 1) rfl rfl (by omega)]
  unfold Instr.fill
  have e : Try.zeroCells67.toList = pcl 0 z256 := by kernel_rfl
  rw [e]
  rfl
theorem wp_b67z {ops : Array Oper} {rest : List Oper} {o : Oper} {a : Act} {Q : Exit → Act → World → Prop} {w : World} {n : Int} (x : Operand) (hg : o.guard = none) (ho : o.op = .build 67 #[(0, x)]) (hx : a.eval x = .int .i64 n)
    (hk : wpList Try.prog ops Q rest (a.put o.dst (.agg (pcl n z256).toArray)) w) : wpList Try.prog ops Q (o :: rest) a w :=
  wp_b67l (built67z n) [(0, x)] hg ho (by simp [hx]) hk
/-- The bytes behind a record's sector are copied. -/
theorem step_copyT {ops : Array Oper} {o : Oper} {a : Act} {K : Act → World → Prop} {Q : Exit → Act → World → Prop} {E : Prop} {W : World} {g dc : Nat} {n : Int} {p : List UInt8} (hp : p.length = 256) (hg : Blk W g (pcl n z256).toArray 67) (x y : Operand)
    (hgd : o.guard = none) (ho : o.op = .call { callee := .builtin .copy, args := #[x, y], argTypes := #[43, 9] }) (hx : a.eval x = .slice (some ⟨g, 1, none⟩) 256 dc) (hy : a.eval y = .string (bstr p))
    (hk : ∀ W', Blk W' g (pcl n p).toArray 67 → Only [g] W W' → K (a.put o.dst (goInt 256)) W') :
    if Region.wanted o (yielded ops a.tmps) = true then Oper.wp Try.prog o a W K Q else E := by
  have hw : Region.wanted o (yielded ops a.tmps) = true := by simp [Region.wanted, hgd]
  rw [if_pos hw]
  have hs : (bstr p).size = 256 := by rw [bstr_size, hp]
  have hr := Lib.run_copy_row_string (P := Try.prog) W 43 9 o.type 5 g 1 256 dc (bstr p) (pcl n z256).toArray 67 Try.underlying43 (by kernel_rfl) hg (by omega) (by rw [hs, List.size_toArray, pcl_length n z256_length]; omega)
  unfold Oper.wp execOp
  simp only [ho, resolve, invoke, builtin, Sem.run_bind, Sem.run_pure, Result.andThen_ok, List.map_toArray, List.map_cons, List.map_nil, hx, hy, hr]
  rw [hs]
  refine hk _ ?_ ⟨rfl, rfl, rfl, by simp [World.setRow], fun k _ hk => setRow_other W g k _ (fun e => hk (by simp [e]))⟩
  have := setRow_heap W g (pcl n z256).toArray (((pcl n z256).toArray.toList.take 1 ++ Lib.byteCells (bstr p).data.toList ++ (pcl n z256).toArray.toList.drop (1 + 256)).toArray) 67 (0, 0) hg
  have e : ((pcl n z256).toArray.toList.take 1 ++ Lib.byteCells (bstr p).data.toList ++ (pcl n z256).toArray.toList.drop (1 + 256)) = pcl n p := by
    rw [bstr_data, List.toList_toArray, List.drop_of_length_le (by rw [pcl_length n z256_length]; omega), List.append_nil]
    rfl
  rw [e] at this ⊢
  exact this
theorem rec_bytes {n : Nat} (hn : n < 4294967296) (p : List UInt8) : ∃ a b c d : Nat, a < 256 ∧ b < 256 ∧ c < 256 ∧ d < 256 ∧ word4 a b c d = n ∧ (∀ h : 0 < (bstr (recB n p)).size, (((bstr (recB n p))[0]'h).toNat : Int) = (a : Int)) ∧ (∀ h : 1 < (bstr (recB n p)).size, (((bstr (recB n p))[1]'h).toNat : Int) = (b : Int)) ∧ (∀ h : 2 < (bstr (recB n p)).size, (((bstr (recB n p))[2]'h).toNat : Int) = (c : Int)) ∧ (∀ h : 3 < (bstr (recB n p)).size, (((bstr (recB n p))[3]'h).toNat : Int) = (d : Int)) := by
  refine ⟨(UInt8.ofNat (n / 16777216)).toNat, (UInt8.ofNat (n / 65536)).toNat, (UInt8.ofNat (n / 256)).toNat, (UInt8.ofNat n).toNat, UInt8.toNat_lt _, UInt8.toNat_lt _, UInt8.toNat_lt _, UInt8.toNat_lt _, ?_, fun h => rfl, fun h => rfl, fun h => rfl, fun h => rfl⟩
  have e1 : (UInt8.ofNat (n / 16777216)).toNat = n / 16777216 % 256 := UInt8.toNat_ofNat'
  have e2 : (UInt8.ofNat (n / 65536)).toNat = n / 65536 % 256 := UInt8.toNat_ofNat'
  have e3 : (UInt8.ofNat (n / 256)).toNat = n / 256 % 256 := UInt8.toNat_ofNat'
  have e4 : (UInt8.ofNat n).toNat = n % 256 := UInt8.toNat_ofNat'
  unfold word4
  rw [e1, e2, e3, e4]
  omega
end Go.Proofs.Ytfcgjedanhmpiaa

namespace Go.Proofs.Ytfcgjedanhmpiaa
open Go.ChangeShapes Go.WideShapes Go.ChangeAt Go.RowKit
open Go.ChangeMaps (setBlock)
set_option linter.unusedVariables false

theorem rec_tail (n : Nat) {p : List UInt8} (h : p.length = 256) : (bstr (recB n p)).extract 64 320 = bstr p := by
  have hl := recB_length n h
  apply ByteArray.ext
  rw [ByteArray.data_extract]
  show (recB n p).toArray.extract 64 320 = p.toArray
  rw [List.extract_toArray, List.extract_eq_take_drop]
  congr 1
  have e : (recB n p).drop 64 = p := by
    unfold recB
    rw [List.drop_append, length_be4, List.drop_of_length_le (by rw [length_be4]; omega), List.nil_append, List.drop_append, List.length_replicate, List.drop_of_length_le (by rw [List.length_replicate]; omega), List.nil_append]
    rfl
  rw [e, List.take_of_length_le (by omega)]
theorem step_storeX {ops : Array Oper} {o : Oper} {a : Act} {w : World} {K : Act → World → Prop} {Q : Exit → Act → World → Prop} {E : Prop} {g : Nat} {t : TypeId} {c z : Array Value} (hi : (Try.prog.info? t).map (·.size) = some c.size) (hs : c.size = z.size) (h1 : c.all (·.oneCell') = true) (hg : Blk w g z t) (x y : Operand)
    (hgd : o.guard = none) (ho : o.op = .store t x y) (hx : a.eval x = .pointer (some ⟨g, 0, none⟩)) (hy : a.eval y = .agg c)
    (h : ∀ W', Blk W' g c t → Only [g] w W' → K (a.put o.dst undef) W') : if Region.wanted o (yielded ops a.tmps) = true then Oper.wp Try.prog o a w K Q else E := by
  have hw : Region.wanted o (yielded ops a.tmps) = true := by simp [Region.wanted, hgd]
  rw [if_pos hw]
  exact wp_store_row t x y ho g c hx hy t z hg hi hs.symm h1 (h _ (setRow_heap w g _ _ _ _ hg) ⟨rfl, rfl, rfl, by simp [World.setRow], fun k _ hk => setRow_other w g k _ (fun e => hk (by simp [e]))⟩)

set_option maxHeartbeats 4000000 in
set_option maxRecDepth 100000 in
theorem readRecord_j (w : World) (n : Nat) (hn : n < 4294967296) (p : List UInt8) (hp : p.length = 256) :
    Calls Try.prog 52 #[.string (bstr (recB n p))] w fun e w' => e = .returned (.tuple #[.agg (pcl (n : Int) p).toArray, .bool true]) ∧ w.grownBy w' none := by
  obtain ⟨a, b, c, d, ha, hb, hc, hd', hword, b0, b1, b2, b3⟩ := rec_bytes hn p
  have hs : (bstr (recB n p)).size = 320 := by rw [bstr_size, recB_length n hp]
  obtain ⟨s, hS⟩ : ∃ s, s = bstr (recB n p) := ⟨_, rfl⟩
  rw [← hS] at b0 b1 b2 b3 hs ⊢
  have l0 : (0 : Int) < (s.size : Int) := by omega
  have l1 : (1 : Int) < (s.size : Int) := by omega
  have l2 : (2 : Int) < (s.size : Int) := by omega
  have l3 : (3 : Int) < (s.size : Int) := by omega
  have hsz : ((s.size : Int) == 320) = true := by simp [hs]
  obtain ⟨Z, hZs, hZ⟩ : ∃ z : Array Value, z.size = 257 ∧ Blk (w.alloc (.cells Try.zeroCells67 67)) w.heap.size z 67 := new67 w
  have HWd := hideJ (word_val a b c d ha hb hc hd')
  have HWn := hideJ hword
  have HN := hideJ hn
  have HP := hideJ hp
  have HS := hideJ hS
  have HZs := hideJ hZs
  have HG2 : Hid (w.grownBy ((w.alloc (.cells Try.zeroCells67 67)).alloc (.cells Try.zeroCells67 67)) none) := grown_trans' (World.grownBy_alloc _ _ _) (World.grownBy_alloc _ _ _)
  have HZ1 : Hid (Blk ((w.alloc (.cells Try.zeroCells67 67)).alloc (.cells Try.zeroCells67 67)) w.heap.size Z 67) := (Below.heap_alloc _ _ _ hZ.lt).trans hZ
  obtain ⟨Z2, hZ2s, hZ2⟩ : ∃ z : Array Value, z.size = 257 ∧ Blk ((w.alloc (.cells Try.zeroCells67 67)).alloc (.cells Try.zeroCells67 67)) (w.heap.size + 1) z 67 := by
    have := new67 (w.alloc (.cells Try.zeroCells67 67))
    rw [show (w.alloc (.cells Try.zeroCells67 67)).heap.size = w.heap.size + 1 by simp] at this
    exact this
  have HZ2 := hideJ hZ2
  have HIz := hideJ (size67 (n := (n : Int)) z256_length)
  have HAz := hideJ (pcl_all (n : Int) z256)
  have HSz : Hid ((pcl (n : Int) z256).toArray.size = Z2.size) := by show _ = _; rw [List.size_toArray, pcl_length _ z256_length, hZ2s]
  clear hZ hZs hS hp hn hword hZ2 hZ2s
  go_enter Try.func52, Try.ntmps52
  go_wp2
  refine wp_loop_rounds 5 ?_
  rw [rounds_succ]
  go_wp2
  rw [rounds_succ]
  go_wp2
  rw [rounds_succ]
  go_wp2
  rw [rounds_succ]
  go_wp2
  rw [rounds_succ]
  go_upto_region 10 with fail
  rw [HWd.out, HWn.out]
  clear b0 b1 b2 b3 l0 l1 l2 l3 ha hb hc hd' hsz
  have hw64 : IntKind.i64.wrap (n : Int) = (n : Int) := by have := HN.out; rw [IntKind.wrap_i64]; omega
  go_upto_region 11 with (first
    | ((with_reducible refine atB67 ?_); refine wp_b67z (n := (n : Int)) _ (by rfl) (by rfl) (by first | rfl | simp [hw64]) ?_)
    | ((with_reducible refine at67S ?_); refine wp_storeB (c := (pcl (n : Int) z256).toArray) HIz.out HSz.out HAz.out HZ2.out _ _ (by rfl) (by rfl) (by rfl) (by rfl) ?_; intro W5 hb5 ho5; have HB5 := hideJ hb5; have HG5 := hideJ (grown_only HG2.out ho5 (by omega)); have HZ5 := hideJ (only_blk HZ1.out ho5 (by omega)); clear hb5 ho5))
  simp only [Act.put]
  have HS11 : Hid (s.extract 64 320 = bstr p) := by
    show _ = _
    rw [HS.out]
    exact rec_tail n HP.out
  have HB5d : Hid (Blk W5.drew (w.heap.size + 1) (pcl (n : Int) z256).toArray 67) := HB5.out
  go_region_held3 (fun V => True) (exact trivial) (first
    | (refine step_copyT (p := p) HP.out HB5d.out _ _ (by rfl) (by rfl) (by rfl) (by first | rfl | (rw [← HS11.out]; rfl)) ?_; intro W6 hb6 ho6; have HB6 := hideJ hb6; have HG6 := hideJ (grown_only (grown_trans' HG5.out (World.grownBy_drew W5)) ho6 (by omega)); have HZ6 := hideJ (only_blk (Blk.grown HZ5.out (World.grownBy_drew W5)) ho6 (by omega)); clear hb6 ho6))
  all_goals (try (go_upto_region 12 with fail))
  have HU := hideJ Try.underlying67
  have HSz7 : Hid ((Try.prog.info? 67).map (·.size) = some (pcl (n : Int) p).length) := by
    have := size67 (n := (n : Int)) HP.out
    rw [List.size_toArray] at this
    exact this
  have HLr : Hid (∀ V, Calls Try.prog 38 #[.agg (pcl (n : Int) p).toArray] V fun e w' => e = .returned (.string s) ∧ V.grownBy w' none) := by
    show ∀ V, _
    rw [HS.out]
    exact fun V => layRecord_j V n HN.out p HP.out
  have HSr : Hid (W6.drew.rangeAt (w.heap.size + 1) 0 (pcl (n : Int) p)) := range_of_blk2 (Blk.grown HB6.out (World.grownBy_drew _))
  have HI7 := hideJ (size67 (n := (n : Int)) HP.out)
  have HA7 := hideJ (pcl_all (n : Int) p)
  have HS7 : Hid ((pcl (n : Int) p).toArray.size = Z.size) := by show _ = _; rw [List.size_toArray, pcl_length _ HP.out, HZs.out]
  generalize hC : pcl (n : Int) p = C at HU HSz7 HLr HSr HI7 HA7 HS7 HB6 ⊢
  have HC := hideJ hC
  clear hC
  refine wp_region_held_drew (S := fun V => V.rangeAt (w.heap.size + 1) 0 C) (by kernel_rfl) HSr.out (fun hHeld => ?_)
  refine wpAnyH_take (i := 0) (v := .agg C.toArray) rfl (by kernel_rfl) (by kernel_rfl) (by kernel_rfl) (fun _ _ _ h => h) (yieldsIf_load_mid (by rfl) _ _ rfl _ _ rfl _ _ (fun V hV => hV) HU.out rfl HSz7.out) hHeld ?_
  try simp only [Act.put, List.getElem_toArray, List.getElem_cons_zero, List.setIfInBounds_toArray, List.set_cons_zero, List.set_cons_succ]
  refine wpAnyH_take (i := 1) (v := .agg C.toArray) rfl (by kernel_rfl) (by kernel_rfl) (by kernel_rfl) (fun _ _ _ h => h) (yieldsIf_load_mid (by rfl) _ _ rfl _ _ rfl _ _ (fun V hV => hV) HU.out rfl HSz7.out) hHeld ?_
  try simp only [Act.put, List.getElem_toArray, List.getElem_cons_succ, List.getElem_cons_zero, List.setIfInBounds_toArray, List.set_cons_zero, List.set_cons_succ]
  refine wpAnyH_take (i := 3) (v := .string s) rfl (by kernel_rfl) (by kernel_rfl) (by kernel_rfl) (fun _ _ _ h => h) (Or.inl ⟨by rfl, fun V hV => by go_simp⟩) hHeld ?_
  try simp only [Act.put, List.getElem_toArray, List.getElem_cons_succ, List.getElem_cons_zero, List.setIfInBounds_toArray, List.set_cons_zero, List.set_cons_succ]
  refine wpAnyH_ready (rs := [2]) (by kernel_rfl) (by simp) ?_
  refine AllReadyH.cons rfl (fun K hK => ?_) AllReadyH.nil
  go_simp
  go_at_call 38; (with_reducible refine Calls.mono (HLr.out _) ?_); rintro e w7 ⟨rfl, hg⟩; have HG7 := hideJ (grown_trans' HG6.out (grown_drew_then hg)); have HB7 := hideJ (Blk.grown HB6.out (grown_drew_then hg)); have HZ7 := hideJ (Blk.grown HZ6.out (grown_drew_then hg)); clear hg
  go_wp2_with fail
  refine hK.out _ _ (range_of_blk2 HB7.out) (fun hHeld => ?_)
  clear hK K
  try simp only [Act.put, List.getElem_toArray, List.getElem_cons_succ, List.getElem_cons_zero, List.setIfInBounds_toArray, List.set_cons_zero, List.set_cons_succ]
  refine wpAnyH_take (i := 4) (v := .bool true) rfl (by kernel_rfl) (by kernel_rfl) (by kernel_rfl) (fun _ _ _ h => h) (Or.inl ⟨by rfl, fun V hV => by go_simp⟩) hHeld ?_
  try simp only [Act.put, List.getElem_toArray, List.getElem_cons_succ, List.getElem_cons_zero, List.setIfInBounds_toArray, List.set_cons_zero, List.set_cons_succ]
  refine wpAnyH_ready (rs := [5]) (by kernel_rfl) (by simp) ?_
  refine AllReadyH.cons rfl (fun K hK => ?_) AllReadyH.nil
  refine step_storeX (c := C.toArray) HI7.out HS7.out HA7.out HZ7.out _ _ (by rfl) (by rfl) (by rfl) (by rfl) ?_
  intro W8 hb8 ho8
  have HB8 := hideJ hb8
  have HG8 := hideJ (grown_only HG7.out ho8 (Nat.le_refl _))
  have HC8 := hideJ (only_blk HB7.out ho8 (by omega))
  clear hb8 ho8
  refine hK.out _ _ (range_of_blk2 HC8.out) (fun hHeld => ?_)
  clear hK K
  try simp only [Act.put, List.getElem_toArray, List.getElem_cons_succ, List.getElem_cons_zero]
  refine wpAnyH_take (i := 6) (v := .bool true) rfl (by kernel_rfl) (by kernel_rfl) (by kernel_rfl) (fun _ _ _ h => h) (Or.inl ⟨by rfl, fun V hV => by go_simp⟩) hHeld ?_
  try simp only [Act.put, List.getElem_toArray, List.getElem_cons_succ, List.getElem_cons_zero, List.setIfInBounds_toArray, List.set_cons_zero, List.set_cons_succ]
  refine wpAnyH_done (by kernel_rfl) ?_ _
  go_wp2_with fail
  refine ret_pair (c := C.toArray) HI7.out u67 (by rfl) (by rfl) (by rfl) HB8.out ?_
  exact ⟨by rw [HC.out]; rfl, HG8.out⟩
end Go.Proofs.Ytfcgjedanhmpiaa
