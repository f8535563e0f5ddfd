/- Package spill: walk over the pieces of a payload. -/
import Derived.Test.YthgclfhfipfknaaGreatPPJ
namespace Go.Proofs.YthgclfhfipfknaaGreat
variable {sv : Value}
open Go.ChangeShapes Go.WideShapes Go.ChangeAt Go.RowKit Go.Maps Go.Shelf
set_option linter.unusedVariables false
attribute [local go_sem] Oper.semAt_some

/-- The step that Put hands to walk. -/
def takeF (cb : Nat) : Value := .func (.func 47) #[.pointer (some ⟨cb, 0, none⟩)] #[]
def wkV (a3 a5 a6 a7 : Nat) (v : Value) (u : Nat → Value) : Act := { tmps := #[u 0, u 1, u 2, .pointer (some ⟨a3, 0, none⟩), u 4, .pointer (some ⟨a5, 0, none⟩), .pointer (some ⟨a6, 0, none⟩), .pointer (some ⟨a7, 0, none⟩), u 8, v, u 10, u 11, u 12, u 13, u 14, u 15, u 16, u 17, u 18, u 19, u 20, u 21, u 22, u 23, u 24, u 25, u 26, u 27, u 28, u 29, u 30, u 31], defers := [] }
theorem wkv_ex {a3 a5 a6 a7 : Nat} {v : Value} {a : Act} (h : a = wkV a3 a5 a6 a7 v (fun i => a.tmps.getD i undef)) : ∃ u, a = wkV a3 a5 a6 a7 v u := ⟨_, h⟩
theorem Sv.tk {w w' : World} {base t n pm cb : Nat} {S : List Sn} {cs : Array Value} {P : Nat → List UInt8} {K : Nat} {wr : Bool} (h : Sv w base sv S pm) (ht : Tr sv w t pm n P K wr) (hc : Blk w cb cs 95) (ho : Only [t, pm, cb] w w') : Sv w' base sv S pm := by
  obtain ⟨ct, ht'⟩ := ht.blk
  obtain ⟨es, cl, he⟩ := ht.mp.obj
  refine h.only ho (fun g hg hk => ?_) (fun s hs hk => ?_)
  · obtain ⟨_, c, hb⟩ := ownC_blk h.row hg
    simp only [List.mem_cons, List.not_mem_nil, or_false] at hk
    rcases hk with rfl | rfl | rfl
    · exact blk_ne hb ht' (by decide) rfl
    · exact blk_map hb he rfl
    · exact blk_ne hb hc (by decide) rfl
  · obtain ⟨es', cl', he'⟩ := (h.each s hs).1.obj
    simp only [List.mem_cons, List.not_mem_nil, or_false] at hk
    rcases hk with hk | hk | hk
    · exact blk_map ht' he' hk.symm
    · exact (h.each s hs).2.2.1 hk
    · exact blk_map hc he' hk.symm
/-- The state of walk over pieces. -/
structure TkI (sv : Value) (W0 W : World) (B0 t pm n base : Nat) (P : Nat → List UInt8) (K : Nat) (F : List Nat) (N : Nat → Nat) (s0 : Sn) (cb : Nat) (L : List ByteArray) : Prop where
  st : TkS sv t pm n P K F N cb L W
  ss : Sv W base sv [s0] pm
  kb : Kb B0 95 W0 W
theorem TkI.ownF {W0 X Y : World} {B0 t pm n base B : Nat} {P : Nat → List UInt8} {K : Nat} {F : List Nat} {N : Nat → Nat} {s0 : Sn} {cb : Nat} {L : List ByteArray} {row : Option Nat} (h : TkI sv W0 X B0 t pm n base P K F N s0 cb L) (hg : X.grownBy Y row) (hr : ∀ r, row = some r → B ≤ r ∧ ∃ o : Obj, X.heap[r]? = some o ∧ o.isCells = false) (ht : t < B) (hp : pm < B) (hq : s0.pm < B) (hB : B0 ≤ B) (h0 : B0 ≤ W0.heap.size) : TkI sv W0 Y B0 t pm n base P K F N s0 cb L :=
  ⟨h.st.ownF hg hr ht hp, h.ss.ownF hg hr (by simpa using hq), h.kb.ownF hg hr hB (Nat.le_trans h0 h.kb.bel.size)⟩
theorem TkI.step {W0 W w1 : World} {B0 t pm n base : Nat} {P : Nat → List UInt8} {K : Nat} {F : List Nat} {N : Nat → Nat} {s0 : Sn} {cb A Bb : Nat} {L L2 : List ByteArray} {cA cB : Array Value} (h : TkI sv W0 W B0 t pm n base P K F N s0 cb L) (hst : TkS sv t pm n P K F N cb L2 w1) (ho : Only [t, pm, cb] W w1) (h1 : B0 ≤ t) (h2 : B0 ≤ pm) (h3 : B0 ≤ cb) (hA : Blk W0 A cA 9) (hB : Blk W0 Bb cB 3) (b1 : t < W0.heap.size) (b2 : pm < W0.heap.size) (b3 : cb < W0.heap.size) :
    KeepsFrom W0.heap.size W w1 ∧ (w1.heap[A]? = W.heap[A]? ∧ w1.heap[Bb]? = W.heap[Bb]?) ∧ TkI sv W0 w1 B0 t pm n base P K F N s0 cb L2 := by
  obtain ⟨P', K', hsp, _⟩ := h.st.sp
  obtain ⟨f, l, q, hcb, _⟩ := h.st.tk
  have hk := Kb.of_tk hsp.ld.tr hcb ho h1 h2 h3
  have a1 := h.kb.kp _ _ _ hA (by decide) (by decide) (by decide)
  have a2 := hk.kp _ _ _ a1 (by decide) (by decide) (by decide)
  have c1 := h.kb.kp _ _ _ hB (by decide) (by decide) (by decide)
  have c2 := hk.kp _ _ _ c1 (by decide) (by decide) (by decide)
  exact ⟨keeps_only ho (fun k hk => by simp at hk; omega), ⟨by rw [show w1.heap[A]? = _ from a2, show W.heap[A]? = _ from a1], by rw [show w1.heap[Bb]? = _ from c2, show W.heap[Bb]? = _ from c1]⟩, hst, h.ss.tk hsp.ld.tr hcb ho, h.kb.trans hk⟩
/-- The state ahead of the first piece. -/
theorem tki_start {w3 w4 : World} {B0 t pm n base q cb : Nat} {P : Nat → List UInt8} {K : Nat} {F : List Nat} {N : Nat → Nat} {sv4 : Value} (h : Sp sv w3 t pm n P K F N) (hs : Sv w3 base sv [] pm) (hv : SvW w3 w4 t pm n base P K true sv sv4 [] q) (hc : Blk w3 cb (tkA t 0 0 ⟨#[]⟩) 95) :
    TkI sv4 (w4.alloc (.cells #[.int .i64 1] 3)) (w4.alloc (.cells #[.int .i64 1] 3)) B0 t pm n base P K F N ⟨n, q, K, P⟩ cb [] := by
  have hb4 := below_alloc w4 (.cells #[.int .i64 1] 3)
  refine ⟨⟨by simp, ⟨P, K, ?_, by simp, fun _ _ _ _ => rfl, fun k h => absurd h (by simp)⟩, 0, 0, ⟨#[]⟩, (svw_keep h.ld.tr hs hv.on hc (by decide) (by decide)).later hb4, fun _ => rfl, fun h => absurd h (by simp)⟩, hv.ss.later hb4, Kb.refl _ _ _⟩
  rw [List.length_nil, show n + (0 - F.length) = n by omega, List.drop_zero]
  exact h.set (hv.tr.later hb4)
def pcL (s : ByteArray) (z : Nat) : List ByteArray := (List.finRange (pcN s z)).map (fun x => pcS s z x.val)
/-- What walk over pieces comes to. -/
def TkE (w w' : World) (B0 t pm n base : Nat) (P : Nat → List UInt8) (K : Nat) (F : List Nat) (N : Nat → Nat) (cb : Nat) (L : List ByteArray) : Prop := ∃ sv', TkS sv' t pm n P K F N cb L w' ∧ Sv w' base sv' [] pm ∧ Kb B0 95 w w'
theorem tki_end {sv4 sv' : Value} {w W0 W w' : World} {B0 t pm n base a6 cb : Nat} {P : Nat → List UInt8} {K : Nat} {F : List Nat} {N : Nat → Nat} {s0 : Sn} {L : List ByteArray} {c6 : Array Value} (h : TkI sv4 W0 W B0 t pm n base P K F N s0 cb L) (hk : Kb B0 95 w W0) (he : WkE sv4 sv' W w' t pm base B0 a6) (h6 : w.heap.size ≤ a6) (hk6 : Blk W a6 c6 35) : TkE w w' B0 t pm n base P K F N cb L := by
  refine ⟨sv', h.st.set he.tr (fun c hc => he.kp _ _ _ hc (by decide) (by decide) (blk_ne hc hk6 (by decide))), he.ss, (hk.trans h.kb).bel.trans he.bel, fun b c ty hb n1 n2 n3 => he.kp _ _ _ ((hk.trans h.kb).kp _ _ _ hb n1 n2 n3) n1 n2 (by have := hb.lt; omega)⟩
set_option maxRecDepth 100000 in
set_option maxHeartbeats 1000000 in
theorem walkS_e (w : World) (B0 t pm n base cb A B : Nat) {P : Nat → List UInt8} {K : Nat} {F : List Nat} {N : Nat → Nat} (h : Sp sv w t pm n P K F N) (hs : Sv w base sv [] pm) (s : ByteArray) (z : Nat) (hz0 : 0 < z) (hz1 : z ≤ 240) (hs0 : s.size ≤ 4000) (hK : K ≤ 70000) (hroom : pcN s z ≤ F.length + (4096 - n)) (hA : Blk w A #[.string s] 9) (hB : Blk w B #[.int .i64 (z : Int)] 3) (hc : Blk w cb (tkA t 0 0 ⟨#[]⟩) 95) (h0 : B0 ≤ t ∧ B0 ≤ pm ∧ B0 ≤ base ∧ base ≤ w.heap.size ∧ B0 ≤ cb) :
    Calls Tryz.prog 45 #[.pointer (some ⟨t, 0, none⟩), .func (.func 118) #[] #[.pointer (some ⟨A, 0, none⟩), .pointer (some ⟨B, 0, none⟩)], takeF cb] w fun e w' => e = .returned (.int .i64 0) ∧ TkE w w' B0 t pm n base P K F N cb (pcL s z) := by
  obtain ⟨w3, hw3⟩ : ∃ w3, w3 = ((w.alloc (.cells #[.pointer (some ⟨t, 0, none⟩)] 24)).alloc (.cells #[takeF cb] 100)).alloc (.cells #[.int .i64 0] 35) := ⟨_, rfl⟩
  have hb3 : Below w.heap.size w w3 := by rw [hw3]; exact below_trans (below_trans (below_alloc _ _) (below_alloc _ _)) (below_alloc _ _)
  have e1 : (w.alloc (.cells #[.pointer (some ⟨t, 0, none⟩)] 24)).heap.size = w.heap.size + 1 := by simp
  have e2 : ((w.alloc (.cells #[.pointer (some ⟨t, 0, none⟩)] 24)).alloc (.cells #[takeF cb] 100)).heap.size = w.heap.size + 1 + 1 := by simp
  have k3 : Blk w3 w.heap.size #[.pointer (some ⟨t, 0, none⟩)] 24 := by rw [hw3]; exact Blk.later (Blk.later (Blk.new w _ _) (below_alloc _ _)) (below_alloc _ _)
  have k5 : Blk w3 (w.heap.size + 1) #[takeF cb] 100 := by rw [hw3, ← e1]; exact Blk.later (Blk.new _ _ _) (below_alloc _ _)
  have k6 : Blk w3 (w.heap.size + 1 + 1) #[.int .i64 0] 35 := by rw [hw3, ← e2]; exact Blk.new _ _ _
  have HSave := hide (save_e w3 t pm n base (h.ld.tr.later hb3) (hs.later hb3) (Nat.le_trans h0.2.2.2.1 hb3.size) (by simp))
  rw [List.length_nil] at HSave
  have c3 := k3.cell 0
  have HSp := hide (h.later hb3)
  have HSs := hide (hs.later hb3)
  have o1 := tr_lt h.ld.tr
  have hFb := hide (And.intro h.ch.all (And.intro h.nd (And.intro h.ld.one h.ld.tr.few)))
  have hcl := hc.lt
  have hKb : Kb B0 95 w w3 := Kb.of_below hb3 (by omega)
  have HAll := hide (fun w4 sv4 q (hv : SvW w3 w4 t pm n base P K true sv sv4 [] q) =>
    (have hk : Kb B0 95 w3 (w4.alloc (.cells #[.int .i64 1] 3)) := (Kb.of_sv HSp.out.ld.tr HSs.out hv.on h0.1 h0.2.2.1).trans (Kb.of_below (below_alloc _ _) (by have := hv.on.size; have := hb3.size; omega))
    And.intro (tki_start (B0 := B0) HSp.out HSs.out hv (hc.later hb3)) (And.intro (hKb.trans hk) (And.intro (And.intro (hk.kp _ _ _ k3 (by decide) (by decide) (by decide)) (And.intro (hk.kp _ _ _ k5 (by decide) (by decide) (by decide)) (And.intro (hk.kp _ _ _ k6 (by decide) (by decide) (by decide)) (And.intro (hk.kp _ _ _ (hA.later hb3) (by decide) (by decide) (by decide)) (hk.kp _ _ _ (hB.later hb3) (by decide) (by decide) (by decide)))))) (hv.ss.each ⟨n, q, K, P⟩ (by simp))))))
  clear k3 k5 k6 hA hB hc hs h e1 e2 hKb
  refine (callsIn_wide (n := 9)).1 ?_
  refine callsIn_of_wp_marks Tryz.func45 rfl trivial ?_ rfl
  refine wpIn_wide.2 ?_
  simp only [Tryz.ntmps45, List.size_toArray, List.length_cons, List.length_nil, Nat.reduceAdd, Nat.reduceSub, Array.replicate_succ, Array.replicate_zero, List.push_toArray, List.append_toArray, List.nil_append, List.cons_append]
  simp only [takeF] at hw3
  simp only [takeF]
  go_wp2_with (first
    | (go_at_call 109; rw [← hw3]; (with_reducible refine Calls.mono HSave.out ?_); rintro e w4 ⟨sv4, q, rfl, hv⟩; obtain ⟨hi, hk0, hbs, hq⟩ := HAll.out w4 sv4 q hv; have z3 := hbs.1.cell 0; have z7 := (Blk.new w4 #[.int .i64 1] 3).cell 0; have HI := hide hi; have HK0 := hide hk0; have HBs := hide hbs; have HQ := hide hq; have HSz := hide hv.on.size; clear hv hi hk0 hbs hq))
  have hW0 : w3.heap.size ≤ w4.heap.size := HSz.out
  have hW3 := hb3.size
  have hz9 : w4.heap.size < (w4.alloc (.cells #[.int .i64 1] 3)).heap.size := by simp
  have hqB : q < (w4.alloc (.cells #[.int .i64 1] 3)).heap.size := by obtain ⟨es, cl, he⟩ := (HQ.out.1.later (below_alloc w4 (.cells #[.int .i64 1] 3))).obj; exact (Array.getElem?_eq_some_iff.1 he).1
  have HVs := hide (pieces_stops s z (by omega) (by omega) (by omega) 8 A B (fun X Y => Y.heap[A]? = X.heap[A]? ∧ Y.heap[B]? = X.heap[B]?) (fun X Y h => h) _ HBs.out.2.2.2.1 HBs.out.2.2.2.2)
  have hAB : A < (w4.alloc (.cells #[.int .i64 1] 3)).heap.size ∧ B < (w4.alloc (.cells #[.int .i64 1] 3)).heap.size := ⟨HBs.out.2.2.2.1.lt, HBs.out.2.2.2.2.lt⟩
  clear HAll HSave c3 z3 z7 hw3 HSp HSs
  generalize hs0e : (⟨n, q, K, P⟩ : Sn) = s0 at *
  have hs0p : s0.pm = q := by rw [← hs0e]
  generalize w4.alloc (.cells #[.int .i64 1] 3) = W0 at *
  have ha6 : w.heap.size ≤ w.heap.size + 1 + 1 := by omega
  generalize w4.heap.size = a7 at *
  generalize w.heap.size + 1 + 1 = a6 at *
  generalize w.heap.size + 1 = a5 at *
  have hB9 : B0 ≤ W0.heap.size := by omega
  have hp9 : s0.pm < W0.heap.size := by omega
  have ht9 : t < W0.heap.size := by omega
  have hm9 : pm < W0.heap.size := by omega
  have hc9 : cb < W0.heap.size := by omega
  have HOwn := hide (fun (L : List ByteArray) (X Y : World) (row : Option Nat) (h : TkI sv4 W0 X B0 t pm n base P K F N s0 cb L) (hg : X.grownBy Y row) (hr : ∀ r, row = some r → W0.heap.size ≤ r ∧ ∃ o : Obj, X.heap[r]? = some o ∧ o.isCells = false) => TkI.ownF h hg hr ht9 hm9 hp9 hB9 hB9)
  have HRoom := hide hroom
  clear hroom
  refine (wpIn_wide (n := 9)).1 ?_
  refine wpIn_rangeFunc_ownH rfl (by omega) (gf := 118) (lb := #[.pointer (some ⟨A, 0, none⟩), .pointer (some ⟨B, 0, none⟩)]) rfl trivial (enters_of Tryz.func118 (by kernel_rfl) rfl)
    HVs.out
    (fun h h' => ⟨h'.1.trans h.1, h'.2.trans h.2⟩)
    (fun W l o o' hl ho _ _ => ⟨(grownBy_putObj' W l o').block _ (by have := (Array.getElem?_eq_some_iff.1 ho).1; omega) (fun e => by simp at e; omega), (grownBy_putObj' W l o').block _ (by have := (Array.getElem?_eq_some_iff.1 ho).1; omega) (fun e => by simp at e; omega)⟩) (Below.refl _ _) (fun _ => rfl)
    (fun pre W => TkI sv4 W0 W B0 t pm n base P K F N s0 cb (pre.map (fun x => pcS s z x.val))) (fun cd pre W => False)
    (by exact fun pre X Y row h hg hr => HOwn.out _ X Y row h hg hr) (fun cd pre X Y row h hg hr => h) HI.out
    (fun x a' W => ∃ u, a' = wkV w.heap.size a5 a6 a7 (.string (pcS s z x.val)) u) (fun x a' s X Y row hs hg hr => hs) ?assign ?body ?done ?stop
  case assign =>
    intro lp pre x W Kk hI hKk
    have HKk := hide hKk
    have HI' := hide hI
    clear hKk hI
    simp only [encP]
    generalize pcS s z x.val = gx at *
    gi_wp2
    refine HKk.out _ _ (KeepsFrom.of_grownBy (grown_of_below (below_refl W)) (fun j e => by cases e)) ⟨rfl, rfl⟩ HI'.out ?_
    exact wkv_ex rfl
  case body =>
    rintro lp pre x a' W hlp hr hI ⟨u, rfl⟩ hlen
    have hps := pcS_size s z x.val (by omega) x.isLt
    have hroom := HRoom.out
    have hple := pcN_le s z hz0
    have HD := hide (tk_step W cb t pm n hI.st hFb.out.1 hFb.out.2.1 hFb.out.2.2.1 (by rw [List.length_map]; omega) (by rw [List.length_map]; omega) hFb.out.2.2.2 _ hps.2.1 (by omega))
    clear hroom hple
    have b5 := hI.kb.kp _ _ _ HBs.out.2.1 (by decide) (by decide) (by decide)
    have c5 := b5.cell 0
    simp only [takeF] at c5
    have HI' := hide hI
    clear hI b5
    simp only [wkV]
    obtain ⟨gx, hgx⟩ : ∃ q, pcS s z x.val = q := ⟨_, rfl⟩
    rw [hgx] at HD ⊢
    have HGx := hide hgx
    clear hgx hps
    gi_wp2_with (first
      | (first | refine ⟨trivial, ?_⟩ | refine ⟨trivial, (fun h => absurd h (by decide)), ?_⟩); gi_at_call 47; refine CallsIn.mono (CallsIn.inRound _ (callsIn_wide.2 HD.out)) ?_; rintro e' w1 ⟨rfl, hst, ho⟩; have HG := hide (And.intro hst ho); clear hst ho)
    obtain ⟨r1, r2, r3⟩ := TkI.step HI'.out HG.out.1 HG.out.2 h0.1 h0.2.1 h0.2.2.2.2 HBs.out.2.2.2.1 HBs.out.2.2.2.2 ht9 hm9 hc9
    refine ⟨r1, r2, ?_⟩
    simp only [List.map_append, List.map_cons, List.map_nil, HGx.out]
    exact r3
  case done =>
    rintro D xs W hD rfl hI hK0
    have hI : TkI sv4 W0 W B0 t pm n base P K F N s0 cb (pcL s z) := hI
    have b6 := hI.kb.kp _ _ _ HBs.out.2.2.1 (by decide) (by decide) (by decide)
    have z6 := b6.cell 0
    have f6 := b6.frozen 0
    have HL := hide (fun tm hm => (show LeavesInM Fence.wide 9 Tryz.prog Tryz.f45 tm (fun e w' => e = .returned (.int .i64 0) ∧ TkE w w' B0 t pm n base P K F N cb (pcL s z)) _ .returning _ from (let ⟨P', K', q1, _⟩ := hI.st.sp; wk_leaveX (tmps := tm) Tryz.results45 q1.ld.tr hI.ss b6 hK0 (by omega) (by omega) (by omega) (by omega) h0.1 h0.2.2.1 (by omega) hm (fun w' sv' he => ⟨rfl, tki_end hI HK0.out he ha6 b6⟩))))
    clear hI hK0 b6
    go_wp2
    exact HL.out _ (by rfl)
  case stop =>
    rintro D cd pre W hD _ hx hK0
    exact hx.elim
end Go.Proofs.YthgclfhfipfknaaGreat
