/- A page at a mark. -/
import Derived.Test.YteocmhbllckpjaaGreatX1
import Derived.Test.YteocmhbllckpjaaGreatB12
namespace Go.Proofs.YteocmhbllckpjaaGreat
open Go.ChangeShapes Go.WideShapes Go.ChangeAt Go.RowKit Go.Shelf
set_option linter.unusedVariables false
attribute [local go_sem] Oper.semAt_some

/-- The page that the frames gone over tell. -/
def foldP (N : Nat → Nat) (P : Nat → List UInt8) (n : Nat) (p0 : List UInt8) (pre : List Nat) : List UInt8 := pre.foldl (fun p k => if N k = n then P k else p) p0
theorem foldP_snoc (N : Nat → Nat) (P : Nat → List UInt8) (n : Nat) (p0 : List UInt8) (pre : List Nat) (x : Nat) : foldP N P n p0 (pre ++ [x]) = if N x = n then P x else foldP N P n p0 pre := by
  unfold foldP; rw [List.foldl_append]; rfl
theorem foldP_length {N : Nat → Nat} {P : Nat → List UInt8} (hP : ∀ k, (P k).length = 256) {n : Nat} {p0 : List UInt8} (h0 : p0.length = 256) : ∀ pre : List Nat, (foldP N P n p0 pre).length = 256 := fun pre => by
  unfold foldP
  induction pre generalizing p0 with
  | nil => exact h0
  | cons x r ih =>
    rw [List.foldl_cons]
    apply ih
    split
    · exact hP x
    · exact h0
/-- A page at a mark, of a database and the frames of its log. -/
def pgAt (db : List UInt8) (N : Nat → Nat) (P : Nat → List UInt8) (m n : Nat) : List UInt8 := foldP N P n (pgZ db n) (List.range m)
theorem range_mid {w : World} {g : Nat} {n : Int} {p : List UInt8} {e : Nat} {pl : Bool} (h : Blk w g (fcl n p e pl).toArray 167) : w.rangeAt g 1 (bcs p) := fun j v hv => by
  rw [Blk.cell h]
  have hj : j < (bcs p).length := (List.getElem?_eq_some_iff.1 hv).1
  unfold fcl
  rw [List.getElem?_toArray, show 1 + j = j + 1 by omega, List.getElem?_cons_succ, List.getElem?_append_left hj]
  exact hv
theorem wpIn_loadM {F : Fence} {n : Nat} {ops : Array Oper} {rest : List Oper} {o : Oper} {a : Act} {Q : Exit → Act → World → Prop} {w : World} {g k : Nat} {t : TypeId} {c : List Value} (hi : (Tryz.prog.info? t).map (·.size) = some c.length) (hu : ∃ d, Tryz.prog.underlying t = some d ∧ d.isRow = true) (hg : w.rangeAt g k c) (x : Operand)
    (hgd : o.guard = none) (ho : o.op = .load t x) (hx : a.eval x = .pointer (some ⟨g, k, none⟩)) (h : wpListIn F n Tryz.prog ops Q rest (a.put o.dst (.agg c.toArray)) w) : wpListIn F n Tryz.prog ops Q (o :: rest) a w := by
  obtain ⟨d, hd, hr⟩ := hu
  have hld := run_loadVar_mid (P := Tryz.prog) w g k t c d hg hd hr (by simpa using hi)
  refine wpListIn_plain hgd fun K hK' => ?_
  unfold Oper.wpIn
  refine ⟨by simp [Oper.about, ho], ?_⟩
  rw [Oper.semAt_plain F _ _ (by rw [ho]; intro c hc'; cases hc')]
  unfold execOp
  simp only [ho, hx, Instr.loadAt, Instr.sureAddr, Sem.run_bind, Sem.run_pure, Result.andThen_ok, hld]
  exact hK' _ _ h
theorem res_blk {W : World} {g j : Nat} {t : TypeId} {c : Array Value} (hi : (Tryz.prog.info? t).map (·.size) = some c.size) (hu : ∃ d, Tryz.prog.underlying t = some d ∧ d.isRow = true) {fn : Func} (hres : fn.results = #[.cell j t]) {tmps : Array Value} (ht : tmps.getD j undef = .pointer (some ⟨g, 0, none⟩))
    (hg : Blk W g c t) : Sem.run Tryz.prog (results fn tmps) W = .ok (.agg c) W := by
  obtain ⟨d, hd, hr⟩ := hu
  have hld := run_loadVar_mid (P := Tryz.prog) W g 0 t c.toList d (range_of_blk hg) hd hr (by simpa using hi)
  have ht' : tmps[j]?.getD undef = .pointer (some ⟨g, 0, none⟩) := by simpa using ht
  simp [results, hres, ht', asAddr, hld]
/-- Between two rounds. -/
def PgI (w : World) (N : Nat → Nat) (P : Nat → List UInt8) (n gp : Nat) (p0 : List UInt8) (sz : Nat) (pre : List Nat) (W : World) : Prop := Blk W gp (bcs (foldP N P n p0 pre)).toArray 49 ∧ Blk W (w.heap.size + 1) #[.int .i64 (n : Int)] 3 ∧ Blk W (w.heap.size + 1 + 1) (bcs z256).toArray 49 ∧ Below w.heap.size w W ∧ sz ≤ W.heap.size
theorem pgI_own (w : World) (N : Nat → Nat) (P : Nat → List UInt8) (n gp : Nat) (p0 : List UInt8) (sz B : Nat) (h : w.heap.size ≤ B) : OwnFrom B (PgI w N P n gp p0 sz) := fun s X Y row hs hg hr =>
  ⟨blk_keep hs.1 hg (fun r e => (hr r e).2), blk_keep hs.2.1 hg (fun r e => (hr r e).2), blk_keep hs.2.2.1 hg (fun r e => (hr r e).2), (ownFrom_below (w₀ := w) (Nat.le_refl _) h) s X Y row hs.2.2.2.1 hg hr, Nat.le_trans hs.2.2.2.2 hg.size⟩
def pgT (w : World) (b n gp : Nat) (x0 : Int) (T : ByteArray) (K m : Nat) (p0 : List UInt8) (bl bm : Nat) (x g : Nat) (C : Array Value) : Act := { tmps := #[.agg #[.pointer (some ⟨b, 0, none⟩), .string T, .int .i64 (K : Int)], .int .i64 (m : Int), .int .i64 (n : Int), .pointer (some ⟨w.heap.size, 0, none⟩), undef, .pointer (some ⟨w.heap.size + 1, 0, none⟩), .pointer (some ⟨w.heap.size + 1 + 1, 0, none⟩), .pointer (some ⟨gp, 0, none⟩), .int .i64 x0, undef, .pointer (some ⟨g, 0, none⟩), .tuple #[.agg (bcs p0).toArray, .int .i64 x0], .pointer (some ⟨w.heap.size, 0, none⟩), .pointer (some ⟨b, 0, none⟩), .int .i64 (n : Int), .tuple #[.agg (bcs p0).toArray, .int .i64 x0], .agg (bcs p0).toArray, .int .i64 x0, .agg #[.pointer (some ⟨b, 0, none⟩), .string T, .int .i64 (K : Int)], .int .i64 (m : Int), .func (.func 119) #[] #[.pointer (some ⟨bm, 0, none⟩), .pointer (some ⟨bl, 0, none⟩)], .int .i64 ((x : Int) + 1), .agg C, undef, undef, undef, undef, undef, undef, undef, undef, undef], defers := [] }

set_option maxRecDepth 100000 in
set_option maxHeartbeats 4000000 in
theorem pageW_w (w : World) (base b : Nat) (D : DS) (who : Nat → Nat) (R : Rep w base b D who) {r : Int} {i : Nat} (hJ : JI r D i) (t : List UInt8) (K : Nat) (hK : K ≤ 10000) (N E : Nat → Nat) (P : Nat → List UInt8) (h : Frs t K N E P) (ha : Fra N E P) (m : Nat) (hm : m ≤ K) (n : Nat) (hn : 1 ≤ n) :
    Calls Tryz.prog 45 #[lgV b t K, .int .i64 (m : Int), .int .i64 (n : Int)] w fun x w' => x = .returned (.agg (bcs (pgAt (seenOf D nmD) N P m n)).toArray) ∧ Below w.heap.size w w' := by
  have HPg := hideJ (fun V (hV : w.grownBy V none) => pageF_any V base b D who (R.keep hV) hJ n hn)
  have HFm := hideJ (fun V => frames_w V b t K m)
  have HFr := hideJ h
  have HFa := hideJ ha
  have hp0 : (pgZ (seenOf D nmD) n).length = 256 := pgZ_length hn
  have HI := hideJ (size24 hp0)
  have HA := hideJ (bytes_all (pgZ (seenOf D nmD) n))
  have HSz : Hid ((bcs (pgZ (seenOf D nmD) n)).toArray.size = (bcs z256).toArray.size) := by show _ = _; rw [List.size_toArray, List.size_toArray, length_bcs, length_bcs, hp0, z256_length]
  have HNw := hideJ new24
  have HI93 := hideJ info93
  obtain ⟨p0, hp⟩ : ∃ p0, p0 = pgZ (seenOf D nmD) n := ⟨_, rfl⟩
  unfold pgAt
  rw [← hp] at HPg HI HA HSz hp0 ⊢
  clear h ha R hJ hp
  have HL0 := hideJ hp0
  clear hp0
  have hnil : ∀ (V : World) (b c : Nat), (binOp BinOp.eql 163 (.func (.func 119) #[] #[.pointer (some ⟨b, 0, none⟩), .pointer (some ⟨c, 0, none⟩)]) Value.nilFunc).run Tryz.prog V = .ok (.bool false) V := fun V b c => by kernel_rfl
  obtain ⟨W1, hW1⟩ : ∃ W1, W1 = ((w.alloc (.cells #[.pointer (some ⟨b, 0, none⟩), .string (bstr t), .int .i64 (K : Int)] 93)).alloc (.cells #[.int .i64 (n : Int)] 3)).alloc (.cells Tryz.zeroCells49 49) := ⟨_, rfl⟩
  have HG1 : Hid (w.grownBy W1 none) := by show w.grownBy W1 none; rw [hW1]; exact grown_trans' (grown_trans' (World.grownBy_alloc _ _ _) (World.grownBy_alloc _ _ _)) (World.grownBy_alloc _ _ _)
  have HA1 : Hid (Blk W1 w.heap.size #[.pointer (some ⟨b, 0, none⟩), .string (bstr t), .int .i64 (K : Int)] 93) := by
    show Blk _ _ _ _; rw [hW1]; exact (Below.heap_alloc _ _ _ (by simp <;> omega)).trans ((Below.heap_alloc _ _ _ (by simp)).trans (alloc_new _ _))
  have HA2 : Hid (Blk W1 (w.heap.size + 1) #[.int .i64 (n : Int)] 3) := by
    have := alloc_new (w.alloc (.cells #[.pointer (some ⟨b, 0, none⟩), .string (bstr t), .int .i64 (K : Int)] 93)) (.cells #[.int .i64 (n : Int)] 3)
    rw [World.size_alloc] at this
    show Blk _ _ _ _; rw [hW1]; exact (Below.heap_alloc _ _ _ (by simp)).trans this
  have HA3 : Hid (Blk W1 (w.heap.size + 1 + 1) (bcs z256).toArray 49) := by
    have := new24 ((w.alloc (.cells #[.pointer (some ⟨b, 0, none⟩), .string (bstr t), .int .i64 (K : Int)] 93)).alloc (.cells #[.int .i64 (n : Int)] 3))
    rw [World.size_alloc, World.size_alloc] at this
    show Blk _ _ _ _; rw [hW1]; exact this
  have HS1 : Hid (W1.heap.size = w.heap.size + 3) := by show W1.heap.size = _; rw [hW1]; simp
  rw [show lgV b t K = .agg #[.pointer (some ⟨b, 0, none⟩), .string (bstr t), .int .i64 (K : Int)] from rfl]
  refine (callsIn_wide (n := 9)).1 ?_
  refine callsIn_of_wp_marks Tryz.func45 rfl trivial ?_ rfl
  simp only [Tryz.ntmps45, List.size_toArray, List.length_cons, List.length_nil, Nat.reduceAdd, Nat.reduceSub, Array.replicate_succ, Array.replicate_zero, List.push_toArray, List.append_toArray, List.nil_append, List.cons_append]
  gi_wp2_with (first
    | (refine ⟨trivial, ?_⟩; gi_at_call 87; rw [← hW1]; refine CallsIn.mono (callsIn_wide.2 (HPg.out _ HG1.out)) ?_; rintro e w2 ⟨⟨x0, rfl⟩, hg2⟩; have HG2 := hideJ hg2; clear hg2)
    | (refine wpIn_storeB (c := (bcs p0).toArray) HI.out HSz.out HA.out (HNw.out _) _ _ (by rfl) (by rfl) (by rfl) (by rfl) ?_; intro W3 hb3 ho3 hk3; have HB3 := hideJ hb3; have HO3 := hideJ ho3; have HGa := hideJ (World.grownBy_alloc w2 (.cells Tryz.zeroCells49 49) none); have HG3 := hideJ (grown_only HGa.out ho3 (Nat.le_refl _)); have HC3 := hideJ ((HA1.out.grown HG2.out).grown HG3.out); clear hb3 ho3)
    | (refine wpIn_loadB (c := #[.pointer (some ⟨b, 0, none⟩), .string (bstr t), .int .i64 (K : Int)]) HI93.out u93 HC3.out _ (by rfl) (by rfl) (by rfl) ?_)
    | (refine ⟨trivial, ?_⟩; gi_at_call 83; refine CallsIn.mono (callsIn_wide.2 (HFm.out _)) ?_; rintro e w4 ⟨rfl, rfl⟩))
  have HW2 : Hid (w.grownBy w2 none) := grown_trans' HG1.out HG2.out
  have HW3 : Hid (w.grownBy W3 none) := grown_trans' HW2.out HG3.out
  have HLt : Hid (w.heap.size + 3 ≤ w2.heap.size) := by have h1 := HG2.out.size; have h2 := HS1.out; show _ ≤ _; omega
  have hs3 : w2.heap.size + 1 ≤ W3.heap.size := by have := HO3.out.size; rw [World.size_alloc] at this; exact this
  have hB0 : Below w.heap.size w ((W3.alloc (.cells #[.pointer (some ⟨b, 0, none⟩), .string (bstr t), .int .i64 (K : Int)] 93)).alloc (.cells #[.int .i64 (m : Int)] 3)) := ((gbelow HW3.out (Nat.le_refl _)).alloc HW3.out.size _).alloc (by rw [World.size_alloc]; have := HW3.out.size; omega) _
  have bC := alloc_new W3 (.cells #[.pointer (some ⟨b, 0, none⟩), .string (bstr t), .int .i64 (K : Int)] 93)
  have bD := alloc_new (W3.alloc (.cells #[.pointer (some ⟨b, 0, none⟩), .string (bstr t), .int .i64 (K : Int)] 93)) (.cells #[.int .i64 (m : Int)] 3)
  rw [World.size_alloc] at bD
  have bC2 := (Below.heap_alloc _ (.cells #[.int .i64 (m : Int)] 3) _ (by simp)).trans bC
  have hgr : W3.grownBy ((W3.alloc (.cells #[.pointer (some ⟨b, 0, none⟩), .string (bstr t), .int .i64 (K : Int)] 93)).alloc (.cells #[.int .i64 (m : Int)] 3)) none := grown_trans' (World.grownBy_alloc _ _ _) (World.grownBy_alloc _ _ _)
  have bP := HB3.out.grown hgr
  have bN := ((HA2.out.grown HG2.out).grown HG3.out).grown hgr
  have bR := ((HA3.out.grown HG2.out).grown HG3.out).grown hgr
  have hs0 : ((W3.alloc (.cells #[.pointer (some ⟨b, 0, none⟩), .string (bstr t), .int .i64 (K : Int)] 93)).alloc (.cells #[.int .i64 (m : Int)] 3)).heap.size = W3.heap.size + 2 := by simp
  obtain ⟨gp, hgp⟩ : ∃ gp, gp = w2.heap.size := ⟨_, rfl⟩
  obtain ⟨bl, hbl⟩ : ∃ bl, bl = W3.heap.size := ⟨_, rfl⟩
  rw [← hgp] at bP hs3 HLt ⊢
  rw [← hbl] at bC2 bD hs0 hs3 ⊢
  generalize ((W3.alloc (.cells #[.pointer (some ⟨b, 0, none⟩), .string (bstr t), .int .i64 (K : Int)] 93)).alloc (.cells #[.int .i64 (m : Int)] 3)) = W0 at hB0 bC2 bD bP bN bR hs0 ⊢
  have hlt := HLt.out
  have h0 : PgI w N P n gp p0 W0.heap.size [] W0 := ⟨bP, bN, bR, hB0, Nat.le_refl _⟩
  clear bC hgr bP bN bR hgp hbl
  refine wpIn_rangeFunc_ownH rfl (by omega) (gf := 119) (lb := #[.pointer (some ⟨bl + 1, 0, none⟩), .pointer (some ⟨bl, 0, none⟩)]) rfl trivial (enters_of Tryz.func119 (by kernel_rfl) rfl)
    (frames_stops b t K hK N E P HFr.out m hm _ (bl + 1) bl (fun A B => B.heap[bl + 1]? = A.heap[bl + 1]? ∧ B.heap[bl]? = A.heap[bl]?) (fun A B h => h) W0 (by omega) (by omega) bD bC2)
    (fun h h' => ⟨h'.1.trans h.1, h'.2.trans h.2⟩)
    (fun W l o o' hl ho _ _ => ⟨(grownBy_putObj' W l o').block _ (by have := (Array.getElem?_eq_some_iff.1 ho).1; omega) (fun e => by simp at e; omega), (grownBy_putObj' W l o').block _ (by have := (Array.getElem?_eq_some_iff.1 ho).1; omega) (fun e => by simp at e; omega)⟩) (Below.refl _ _) (fun _ => rfl)
    (PgI w N P n gp p0 W0.heap.size) (fun _ _ _ => False) (pgI_own w N P n gp p0 _ _ (by have := hB0.size; omega)) (fun _ _ _ _ _ hs _ _ => hs) h0
    (fun x a' W => ∃ g, W0.heap.size ≤ g ∧ a' = pgT w b n gp x0 (bstr t) K m p0 bl (bl + 1) x g (fcl (N x : Int) (P x) (E x) true).toArray ∧ Blk W g (fcl (N x : Int) (P x) (E x) true).toArray 167)
    (fun x a' s X Y row hs hg hr => by
      obtain ⟨g, h1, h2, h3⟩ := hs
      exact ⟨g, h1, h2, blk_keep h3 hg (fun r e => (hr r e).2)⟩) ?assign ?body ?done ?stop
  case assign =>
    intro lp pre x W Kk hI hKk
    have hp := HFa.out.pg x
    obtain ⟨Z, hZs, hZ⟩ := new167 W
    have HZ := hideJ hZ
    have HI1 := hideJ (size167 (n := (N x : Int)) (p := P x) (e := E x) (pl := true) hp)
    have HA := hideJ (fcl_all (N x : Int) (P x) (E x) true)
    have HS : Hid ((fcl (N x : Int) (P x) (E x) true).toArray.size = Z.size) := by show _ = _; rw [List.size_toArray, fcl_length _ _ _ hp, hZs]
    have HKk := hideJ hKk
    have HIw := hideJ hI
    clear hZ hZs hp hKk hI
    simp only [encF]
    generalize hC : (fcl (N x : Int) (P x) (E x) true).toArray = C at HI1 HA HS HKk ⊢
    gi_wp2_with (refine wpIn_storeB (c := C) HI1.out HS.out HA.out HZ.out _ _ (by rfl) (by rfl) (by rfl) (by rfl) ?_; intro W5 hb5 ho5 hk5)
    have hgr : W.grownBy W5 none := grown_only (World.grownBy_alloc _ _ _) ho5 (Nat.le_refl _)
    obtain ⟨i1, i2, i3, i4, i5⟩ := HIw.out
    have hke : ∀ k, k < W.heap.size → W5.heap[k]? = W.heap[k]? := fun k hk => hgr.block k hk (by simp)
    exact HKk.out _ _ (((KeepsOthers.alloc W _).trans hk5).from _) ⟨hke _ (by omega), hke _ (by omega)⟩ ⟨i1.grown hgr, i2.grown hgr, i3.grown hgr, i4.trans (gbelow hgr (by omega)), Nat.le_trans i5 hgr.size⟩ ⟨W.heap.size, by omega, rfl, hb5⟩
  case body =>
    rintro lp pre x a' W hl hr ⟨h1, h2, h3, hB, hsz⟩ ⟨g, hg0, rfl, hg⟩ hlt2
    have hp := HFa.out.pg x
    have cN : W.cell? ⟨g, 0, none⟩ = some (.int .i64 (N x : Int)) := (hg.cell 0).trans rfl
    have cn : W.cell? ⟨w.heap.size + 1, 0, none⟩ = some (.int .i64 (n : Int)) := (h2.cell 0).trans rfl
    have HRm := hideJ (range_mid hg)
    have HIp : Hid ((Tryz.prog.info? 49).map (·.size) = some (bcs (P x)).length) := by have := size24 hp; rwa [List.size_toArray] at this
    have HIq := hideJ (size24 hp)
    have HSq : Hid ((bcs (P x)).toArray.size = (bcs (foldP N P n p0 pre)).toArray.size) := by show _ = _; rw [List.size_toArray, List.size_toArray, length_bcs, length_bcs, hp, foldP_length HFa.out.pg HL0.out]
    have HAq := hideJ (bytes_all (P x))
    have H1 := hideJ h1
    have HNx := hideJ (foldP_snoc N P n p0 pre x)
    have HIv : Hid (Blk W (w.heap.size + 1) #[.int .i64 (n : Int)] 3 ∧ Blk W (w.heap.size + 1 + 1) (bcs z256).toArray 49 ∧ Below w.heap.size w W ∧ W0.heap.size ≤ W.heap.size) := ⟨h2, h3, hB, hsz⟩
    clear h1 h2 h3 hB hg hlt2
    simp only [pgT]
    generalize hC : (fcl (N x : Int) (P x) (E x) true).toArray = C at ⊢
    clear hC
    by_cases e : N x = n
    · have he : ((N x : Int) == (n : Int)) = true := by simp [e]
      have hd : decide ((N x : Int) = (n : Int)) = true := by simp [e]
      rw [if_pos e] at HNx
      have HE := hideJ e
      clear e
      gi_wp2_with (first
        | (refine wpIn_loadM (c := bcs (P x)) HIp.out u24 HRm.out _ (by rfl) (by rfl) (by rfl) ?_)
        | (refine wpIn_storeB (c := (bcs (P x)).toArray) HIq.out HSq.out HAq.out H1.out _ _ (by rfl) (by rfl) (by rfl) (by rfl) ?_; intro W5 hb5 ho5 hk5))
      have hgp0 : gp < W.heap.size := H1.out.lt
      have hke : ∀ k, k < W.heap.size → k ≠ gp → W5.heap[k]? = W.heap[k]? := fun k hk hn => ho5.block k hk (by simpa using hn)
      obtain ⟨g2, g3, g4, g5⟩ := HIv.out
      have hb6 : Below w.heap.size W W5 := ho5.below (by have := H1.out.lt; omega) (fun k hk => by simp at hk; omega)
      exact ⟨hk5.from _, ⟨hke _ (by omega) (by omega), hke _ (by omega) (by omega)⟩, by rw [HNx.out]; exact hb5, only_blk g2 ho5 (by omega), only_blk g3 ho5 (by omega), g4.trans hb6, Nat.le_trans g5 ho5.size⟩
    · have he : ¬ (N x : Int) = (n : Int) := by omega
      rw [if_neg e] at HNx
      clear e
      gi_wp2
      obtain ⟨g2, g3, g4, g5⟩ := HIv.out
      exact ⟨(KeepsOthers.refl _).from _, ⟨rfl, rfl⟩, by rw [HNx.out]; exact H1.out, g2, g3, g4, g5⟩
  case done =>
    rintro D2 ys W hD rfl ⟨h1, h2, h3, hB, hsz⟩ hK0
    have HLp := hideJ (foldP_length (N := N) (n := n) HFa.out.pg HL0.out (List.range m))
    have HIz := hideJ (size24 HLp.out)
    have HAz := hideJ (bytes_all (foldP N P n p0 (List.range m)))
    have HSz2 : Hid ((bcs (foldP N P n p0 (List.range m))).toArray.size = (bcs z256).toArray.size) := by show _ = _; rw [List.size_toArray, List.size_toArray, length_bcs, length_bcs, HLp.out, z256_length]
    have H1 := hideJ h1
    have H3 := hideJ h3
    obtain ⟨q, hq⟩ : ∃ q, q = foldP N P n p0 (List.range m) := ⟨_, rfl⟩
    rw [← hq] at H1 HIz HAz HSz2
    gi_wp2_with (first
      | (refine wpIn_loadB (c := (bcs q).toArray) HIz.out u24 H1.out _ (by rfl) (by rfl) (by rfl) ?_)
      | (refine wpIn_storeB (c := (bcs q).toArray) HIz.out HSz2.out HAz.out H3.out _ _ (by rfl) (by rfl) (by rfl) (by rfl) ?_; intro Y hb5 ho5 hk5))
    have b1 : Below w.heap.size w Y := hB.trans (ho5.below (by have := H1.out.lt; omega) (fun k hk => by simp at hk; omega))
    have k1 : Y.heap[D2]? = some (.deferred (some [])) := (ho5.block D2 (by have := (Array.getElem?_eq_some_iff.1 hK0).1; omega) (by simp; omega)).trans hK0
    have b2 := b1.trans (belowK_b (w := w) (Nat.le_refl _) Y D2 _ (.deferred none) (by have := hB0.size; omega) k1 rfl rfl)
    have bz : Blk (Y.putObj D2 (.deferred none)) (w.heap.size + 1 + 1) (bcs q).toArray 49 := ((grownBy_putObj' Y D2 (.deferred none)).block _ hb5.lt (fun e => by simp at e; omega)).trans hb5
    rw [← hq]
    refine ⟨by simp, .inl ⟨_, _, rfl, run_takeDeferred k1, ?_⟩⟩
    refine ⟨.agg (bcs q).toArray, ?_, rfl, b2⟩
    simp only [Act.put, List.setIfInBounds_toArray, List.set_cons_zero, List.set_cons_succ]
    exact res_blk HIz.out u24 rfl rfl bz
  case stop =>
    rintro D2 cc pre W _ _ h _
    exact h.elim
end Go.Proofs.YteocmhbllckpjaaGreat
