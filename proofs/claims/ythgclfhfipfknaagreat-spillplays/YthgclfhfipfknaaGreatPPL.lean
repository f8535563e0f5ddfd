/- Package spill: walk over the pages of a chain, exactly. -/
import Derived.Test.YthgclfhfipfknaaGreatPPK
import Derived.Test.YthgclfhfipfknaaGreatPNE
namespace Go.Proofs.YthgclfhfipfknaaGreat
variable {sv : Value}
open Go.ChangeShapes Go.WideShapes Go.ChangeAt Go.RowKit Go.Maps Go.Shelf
set_option linter.unusedVariables false
attribute [local go_sem] Oper.semAt_some

/-- A page that is there is given back, whatever the free pages are. -/
theorem give_l (w : World) (t pm n k : Nat) {P : Nat → List UInt8} {K L : Nat} {N : Nat → Nat} (h : Ld sv w t pm n P K L N) (hK : K ≤ 99998) (h2 : 2 ≤ k) (hn : k ≤ n) : Calls Tryz.prog 42 #[.pointer (some ⟨t, 0, none⟩), .int .i64 (k : Int)] w fun e w' => ∃ P' K', e = .returned (.int .i64 0) ∧ Ld sv w' t pm n P' K' k N ∧ K' ≤ K + 3 ∧ Only [t, pm] w w' := by
  have few := h.tr.few
  refine (give_e w t pm n (N := N) h hK k h2 hn).mono ?_
  rintro e w' ⟨rfl, h1, h3⟩
  refine ⟨_, _, rfl, ⟨h1, h.one, fst_of (by unfold gvP; rw [upP_at]) (by omega) h.nm, by omega, h.nm⟩, by have := lfK_le K (lfR P n k L); omega, h3⟩
/-- So many pages were given back. -/
def DkS (sv : Value) (t pm n : Nat) (P : Nat → List UInt8) (K : Nat) (F : List Nat) (N : Nat → Nat) (G : List Nat) (pre : List (Fin G.length)) (W : World) : Prop := ∃ P' K' L', Ld sv W t pm n P' K' L' N ∧ K' ≤ K + 3 * pre.length ∧ (pre.Nodup → Sp sv W t pm n P' K' ((pre.map G.get).reverse ++ F) N ∧ ∀ j, 2 ≤ j → j ∉ pre.map G.get → P' j = P j)
theorem dk_step (w : World) (t pm n : Nat) {P : Nat → List UInt8} {K : Nat} {F : List Nat} {N : Nat → Nat} {G : List Nat} {pre : List (Fin G.length)} (h : DkS sv t pm n P K F N G pre w) (hK : K + 3 * pre.length ≤ 99998) (hG : ∀ g ∈ G, 2 ≤ g ∧ g ≤ n) (hn : G.Nodup) (hF : ∀ g ∈ G, g ∉ F) (x : Fin G.length) :
    Calls Tryz.prog 42 #[.pointer (some ⟨t, 0, none⟩), .int .i64 (G.getD x.val 0 : Int)] w fun e w' => e = .returned (.int .i64 0) ∧ DkS sv t pm n P K F N G (pre ++ [x]) w' ∧ Only [t, pm] w w' := by
  obtain ⟨P', K', L', hl, hk, hs⟩ := h
  have hx : G.getD x.val 0 = G.get x := by simp [List.getD]
  have hm : G.get x ∈ G := List.get_mem _ _
  have hgx := hG _ hm
  rw [hx]
  by_cases hnd : (pre ++ [x]).Nodup
  · have hp := List.nodup_append.1 hnd
    obtain ⟨s1, s2⟩ := hs hp.1
    have hxp : x ∉ pre := fun hxm => hp.2.2 x hxm x (by simp) rfl
    have hnx : G.get x ∉ pre.map G.get := fun hm => by
      obtain ⟨y, hy, e⟩ := List.mem_map.1 hm
      have := nodup_inj hn y.isLt x.isLt e
      exact hxp (by rw [← Fin.ext this]; exact hy)
    refine (give_g w t pm n (G.get x) s1 (by omega) hgx.1 hgx.2 (fun hm2 => ?_)).mono ?_
    · rcases List.mem_append.1 hm2 with hm2 | hm2
      · exact hnx (List.mem_reverse.1 hm2)
      · exact hF _ hm hm2
    · rintro e w' ⟨P2, rfl, h1, h2, h3⟩
      refine ⟨rfl, ⟨P2, _, _, h1.ld, by simp; omega, fun _ => ⟨?_, fun j hj hjn => ?_⟩⟩, h3⟩
      · rw [List.map_append, List.reverse_append]; exact h1
      · rw [List.map_append, List.mem_append, not_or] at hjn
        rw [h2 j hj (by have := hjn.2; simpa using this), s2 j hj hjn.1]
  · refine (give_l w t pm n (G.get x) hl (by omega) hgx.1 hgx.2).mono ?_
    rintro e w' ⟨P2, K2, rfl, h1, h2, h3⟩
    exact ⟨rfl, ⟨P2, K2, _, h1, by simp; omega, fun h => absurd h hnd⟩, h3⟩
theorem DkS.set {sv' : Value} {W W' : World} {t pm n : Nat} {P : Nat → List UInt8} {K : Nat} {F : List Nat} {N : Nat → Nat} {G : List Nat} {pre : List (Fin G.length)} (h : DkS sv t pm n P K F N G pre W) (hT : ∀ n' P' K', Tr sv W t pm n' P' K' true → Tr sv' W' t pm n' P' K' true) : DkS sv' t pm n P K F N G pre W' := by
  obtain ⟨P', K', L', hl, hk, hs⟩ := h
  exact ⟨P', K', L', ⟨hT _ _ _ hl.tr, hl.one, hl.fst, hl.lk, hl.nm⟩, hk, fun hn => ⟨(hs hn).1.set (hT _ _ _ hl.tr), (hs hn).2⟩⟩
structure DkI (sv : Value) (W0 W : World) (B0 t pm n base : Nat) (P : Nat → List UInt8) (K : Nat) (F : List Nat) (N : Nat → Nat) (s0 : Sn) (G : List Nat) (pre : List (Fin G.length)) : Prop where
  st : DkS sv t pm n P K F N G pre W
  ss : Sv W base sv [s0] pm
  kb : Kb B0 95 W0 W
theorem DkI.ownF {W0 X Y : World} {B0 t pm n base B : Nat} {P : Nat → List UInt8} {K : Nat} {F : List Nat} {N : Nat → Nat} {s0 : Sn} {G : List Nat} {pre : List (Fin G.length)} {row : Option Nat} (h : DkI sv W0 X B0 t pm n base P K F N s0 G pre) (hg : X.grownBy Y row) (hr : ∀ r, row = some r → B ≤ r ∧ ∃ o : Obj, X.heap[r]? = some o ∧ o.isCells = false) (ht : t < B) (hp : pm < B) (hq : s0.pm < B) (hB : B0 ≤ B) (h0 : B0 ≤ W0.heap.size) : DkI sv W0 Y B0 t pm n base P K F N s0 G pre :=
  ⟨h.st.set (fun _ _ _ h => h.ownF hg hr ht hp), h.ss.ownF hg hr (by simpa using hq), h.kb.ownF hg hr hB (Nat.le_trans h0 h.kb.bel.size)⟩
theorem DkI.step {W0 W w1 : World} {B0 t pm n base : Nat} {P : Nat → List UInt8} {K : Nat} {F : List Nat} {N : Nat → Nat} {s0 : Sn} {G : List Nat} {pre : List (Fin G.length)} {x : Fin G.length} {g : Nat} {cur : Array Value} (h : DkI sv W0 W B0 t pm n base P K F N s0 G pre) (hst : DkS sv t pm n P K F N G (pre ++ [x]) w1) (ho : Only [t, pm] W w1) (h1 : B0 ≤ t) (h2 : B0 ≤ pm) (hA : Blk W0 g cur 3) (b1 : t < W0.heap.size) (b2 : pm < W0.heap.size) :
    KeepsFrom W0.heap.size W w1 ∧ w1.heap[g]? = W.heap[g]? ∧ DkI sv W0 w1 B0 t pm n base P K F N s0 G (pre ++ [x]) := by
  obtain ⟨P', K', L', hl, _⟩ := h.st
  have hk := Kb.of_tx (k := 95) hl.tr ho h1 h2
  have a1 := h.kb.kp _ _ _ hA (by decide) (by decide) (by decide)
  have a2 := hk.kp _ _ _ a1 (by decide) (by decide) (by decide)
  exact ⟨keeps_only ho (fun k hk => by simp at hk; omega), by rw [show w1.heap[g]? = _ from a2, show W.heap[g]? = _ from a1], hst, h.ss.tx hl.tr ho, h.kb.trans hk⟩
/-- What walk over pages comes to. -/
def DkE (w w' : World) (B0 t pm n base : Nat) (P : Nat → List UInt8) (K : Nat) (F : List Nat) (N : Nat → Nat) (G : List Nat) : Prop := ∃ sv' P' K', Sp sv' w' t pm n P' K' (G.reverse ++ F) N ∧ K' ≤ K + 3 * G.length ∧ (∀ j, 2 ≤ j → j ∉ G → P' j = P j) ∧ Sv w' base sv' [] pm ∧ Kb B0 95 w w'
theorem get_all (G : List Nat) : (List.finRange G.length).map G.get = G := by
  apply List.ext_getElem
  · simp
  · intro i h1 h2; simp
theorem dk_end {sv4 sv' : Value} {w W0 W w' : World} {B0 t pm n base a6 : Nat} {P : Nat → List UInt8} {K : Nat} {F : List Nat} {N : Nat → Nat} {s0 : Sn} {G : List Nat} (h : DkI sv4 W0 W B0 t pm n base P K F N s0 G (List.finRange G.length)) (hk : Kb B0 95 w W0) (he : WkE sv4 sv' W w' t pm base B0 a6) (h6 : w.heap.size ≤ a6) : DkE w w' B0 t pm n base P K F N G := by
  obtain ⟨P', K', L', hl, hK, hs⟩ := h.st.set he.tr
  obtain ⟨h1, h2⟩ := hs (List.nodup_finRange _)
  rw [get_all] at h1 h2
  rw [List.length_finRange] at hK
  exact ⟨sv', P', K', h1, hK, h2, he.ss, (hk.trans h.kb).bel.trans he.bel, fun b c ty hb n1 n2 n3 => he.kp _ _ _ ((hk.trans h.kb).kp _ _ _ hb n1 n2 n3) n1 n2 (by have := hb.lt; omega)⟩
theorem dropX_e (w : World) (B t pm n : Nat) {P : Nat → List UInt8} {K : Nat} {F : List Nat} {N : Nat → Nat} {G : List Nat} {pre : List (Fin G.length)} (h : DkS sv t pm n P K F N G pre w) (hK : K + 3 * pre.length ≤ 99998) (hG : ∀ g ∈ G, 2 ≤ g ∧ g ≤ n) (hn : G.Nodup) (hF : ∀ g ∈ G, g ∉ F) (x : Fin G.length) (hB : w.cell? ⟨B, 0, none⟩ = some (.pointer (some ⟨t, 0, none⟩))) : Calls Tryz.prog 41 #[.int .i64 (G.getD x.val 0 : Int), .pointer (some ⟨B, 0, none⟩)] w fun e w' => e = .returned (.int .i64 0) ∧ DkS sv t pm n P K F N G (pre ++ [x]) w' ∧ Only [t, pm] w w' := by
  have HG := hide (dk_step w t pm n h hK hG hn hF x)
  clear h hK hG hn hF
  generalize G.getD x.val 0 = gx at *
  go_enter Tryz.func41, Tryz.ntmps41
  go_wp2_with (first
    | (go_at_call 42; (with_reducible refine Calls.mono HG.out ?_); rintro e w4 ⟨rfl, hr⟩; have HR := hide hr; clear hr))
  go_ret
  exact ⟨rfl, HR.out⟩
set_option maxRecDepth 100000 in
set_option maxHeartbeats 4000000 in
theorem walkD_e (w : World) (B0 t pm n base : Nat) {P : Nat → List UInt8} {K : Nat} {F : List Nat} {N : Nat → Nat} (h : Sp sv w t pm n P K F N) (hs : Sv w base sv [] pm) (Bx Bp g cap : Nat) (G : List Nat) (hG : ∀ g ∈ G, 2 ≤ g ∧ g ≤ n) (hn : G.Nodup) (hF : ∀ g ∈ G, g ∉ F) (hGl : G.length ≤ 4000) (hK : K + 3 * G.length ≤ 99998) (hBx : Blk w Bx #[.pointer (some ⟨t, 0, none⟩)] 24) (hBp : Blk w Bp #[.slice (some ⟨g, 0, none⟩) G.length cap] 27) (hI : IntB w g G) (h0 : B0 ≤ t ∧ B0 ≤ pm ∧ B0 ≤ base ∧ base ≤ w.heap.size) :
    Calls Tryz.prog 39 #[.pointer (some ⟨t, 0, none⟩), .func (.func 112) #[] #[.pointer (some ⟨Bp, 0, none⟩)], dropF Bx] w fun e w' => e = .returned (.int .i64 0) ∧ DkE w w' B0 t pm n base P K F N G := by
  obtain ⟨w3, hw3⟩ : ∃ w3, w3 = ((w.alloc (.cells #[.pointer (some ⟨t, 0, none⟩)] 24)).alloc (.cells #[dropF Bx] 87)).alloc (.cells #[.int .i64 0] 35) := ⟨_, rfl⟩
  have hb3 : Below w.heap.size w w3 := by rw [hw3]; exact below_trans (below_trans (below_alloc _ _) (below_alloc _ _)) (below_alloc _ _)
  have e1 : (w.alloc (.cells #[.pointer (some ⟨t, 0, none⟩)] 24)).heap.size = w.heap.size + 1 := by simp
  have e2 : ((w.alloc (.cells #[.pointer (some ⟨t, 0, none⟩)] 24)).alloc (.cells #[dropF Bx] 87)).heap.size = w.heap.size + 1 + 1 := by simp
  have k3 : Blk w3 w.heap.size #[.pointer (some ⟨t, 0, none⟩)] 24 := by rw [hw3]; exact Blk.later (Blk.later (Blk.new w _ _) (below_alloc _ _)) (below_alloc _ _)
  have k5 : Blk w3 (w.heap.size + 1) #[dropF Bx] 87 := by rw [hw3, ← e1]; exact Blk.later (Blk.new _ _ _) (below_alloc _ _)
  have k6 : Blk w3 (w.heap.size + 1 + 1) #[.int .i64 0] 35 := by rw [hw3, ← e2]; exact Blk.new _ _ _
  obtain ⟨cur, hcur, hcurI⟩ := hI
  have HSave := hide (save_e w3 t pm n base (h.ld.tr.later hb3) (hs.later hb3) (Nat.le_trans h0.2.2.2 hb3.size) (by simp))
  rw [List.length_nil] at HSave
  have c3 := k3.cell 0
  have HSp := hide (h.later hb3)
  have HSs := hide (hs.later hb3)
  have o1 := tr_lt h.ld.tr
  have hGb := hide (And.intro hG (And.intro hn hF))
  have hcl := hBx.lt
  have hKb : Kb B0 95 w w3 := Kb.of_below hb3 (by omega)
  have HAll := hide (fun w4 sv4 q (hv : SvW w3 w4 t pm n base P K true sv sv4 [] q) =>
    (have hk : Kb B0 95 w3 (w4.alloc (.cells #[.int .i64 1] 3)) := (Kb.of_sv HSp.out.ld.tr HSs.out hv.on h0.1 h0.2.2.1).trans (Kb.of_below (below_alloc _ _) (by have := hv.on.size; have := hb3.size; omega))
    have hb4 := below_alloc w4 (.cells #[.int .i64 1] 3)
    have hsp4 := HSp.out.set (hv.tr.later hb4)
    And.intro (show DkI sv4 (w4.alloc (.cells #[.int .i64 1] 3)) (w4.alloc (.cells #[.int .i64 1] 3)) B0 t pm n base P K F N ⟨n, q, K, P⟩ G [] from ⟨⟨P, K, _, hsp4.ld, by simp, fun _ => ⟨by simpa using hsp4, fun _ _ _ => rfl⟩⟩, hv.ss.later hb4, Kb.refl _ _ _⟩) (And.intro (hKb.trans hk) (And.intro (And.intro (hk.kp _ _ _ k3 (by decide) (by decide) (by decide)) (And.intro (hk.kp _ _ _ k5 (by decide) (by decide) (by decide)) (And.intro (hk.kp _ _ _ k6 (by decide) (by decide) (by decide)) (And.intro (hk.kp _ _ _ (hBx.later hb3) (by decide) (by decide) (by decide)) (And.intro (hk.kp _ _ _ (hBp.later hb3) (by decide) (by decide) (by decide)) (hk.kp _ _ _ (hcur.later hb3) (by decide) (by decide) (by decide))))))) (hv.ss.each ⟨n, q, K, P⟩ (by simp))))))
  clear k3 k5 k6 hBx hBp hcur hs h e1 e2 hKb hG hn hF
  refine (callsIn_wide (n := 9)).1 ?_
  refine callsIn_of_wp_marks Tryz.func39 rfl trivial ?_ rfl
  refine wpIn_wide.2 ?_
  simp only [Tryz.ntmps39, List.size_toArray, List.length_cons, List.length_nil, Nat.reduceAdd, Nat.reduceSub, Array.replicate_succ, Array.replicate_zero, List.push_toArray, List.append_toArray, List.nil_append, List.cons_append]
  simp only [dropF] at hw3
  simp only [dropF]
  go_wp2_with (first
    | (go_at_call 109; rw [← hw3]; (with_reducible refine Calls.mono HSave.out ?_); rintro e w4 ⟨sv4, q, rfl, hv⟩; obtain ⟨hi, hk0, hbs, hq⟩ := HAll.out w4 sv4 q hv; have z3 := hbs.1.cell 0; have z7 := (Blk.new w4 #[.int .i64 1] 3).cell 0; have HI := hide hi; have HK0 := hide hk0; have HBs := hide hbs; have HQ := hide hq; have HSz := hide hv.on.size; clear hv hi hk0 hbs hq))
  have hW0 : w3.heap.size ≤ w4.heap.size := HSz.out
  have hW3 := hb3.size
  have hz9 : w4.heap.size < (w4.alloc (.cells #[.int .i64 1] 3)).heap.size := by simp
  have hqB : q < (w4.alloc (.cells #[.int .i64 1] 3)).heap.size := by obtain ⟨es, cl, he⟩ := (HQ.out.1.later (below_alloc w4 (.cells #[.int .i64 1] 3))).obj; exact (Array.getElem?_eq_some_iff.1 he).1
  have HVs := hide (values_stops G (by omega) 8 Bp g cap (fun A B => B.heap[g]? = A.heap[g]?) (fun A B h => h) _ HBs.out.2.2.2.2.1 ⟨cur, HBs.out.2.2.2.2.2, hcurI⟩)
  have hAB := HBs.out.2.2.2.2.2.lt
  clear HAll HSave c3 z3 z7 hw3 HSp HSs
  generalize hs0e : (⟨n, q, K, P⟩ : Sn) = s0 at *
  have hs0p : s0.pm = q := by rw [← hs0e]
  generalize w4.alloc (.cells #[.int .i64 1] 3) = W0 at *
  have ha6 : w.heap.size ≤ w.heap.size + 1 + 1 := by omega
  generalize w4.heap.size = a7 at *
  generalize w.heap.size + 1 + 1 = a6 at *
  generalize w.heap.size + 1 = a5 at *
  have hB9 : B0 ≤ W0.heap.size := by omega
  have hp9 : s0.pm < W0.heap.size := by omega
  have ht9 : t < W0.heap.size := by omega
  have hm9 : pm < W0.heap.size := by omega
  have HOwn := hide (fun (pre : List (Fin G.length)) (X Y : World) (row : Option Nat) (h : DkI sv4 W0 X B0 t pm n base P K F N s0 G pre) (hg : X.grownBy Y row) (hr : ∀ r, row = some r → W0.heap.size ≤ r ∧ ∃ o : Obj, X.heap[r]? = some o ∧ o.isCells = false) => DkI.ownF h hg hr ht9 hm9 hp9 hB9 hB9)
  refine (wpIn_wide (n := 9)).1 ?_
  refine wpIn_rangeFunc_ownH rfl (by omega) (gf := 112) (lb := #[.pointer (some ⟨Bp, 0, none⟩)]) rfl trivial (enters_of Tryz.func112 (by kernel_rfl) rfl)
    HVs.out
    (fun h h' => h'.trans h)
    (fun W l o o' hl ho _ _ => (grownBy_putObj' W l o').block _ (by have := (Array.getElem?_eq_some_iff.1 ho).1; omega) (fun e => by simp at e; omega)) (Below.refl _ _) (fun _ => rfl)
    (fun pre W => DkI sv4 W0 W B0 t pm n base P K F N s0 G pre) (fun cd pre W => False)
    (by exact fun pre X Y row h hg hr => HOwn.out _ X Y row h hg hr) (fun cd pre X Y row h hg hr => h) HI.out
    (fun x a' W => ∃ u, a' = wkV w.heap.size a5 a6 a7 (.int .i64 (G.getD x.val 0 : Int)) u) (fun x a' s X Y row hs hg hr => hs) ?assign ?body ?done ?stop
  case assign =>
    intro lp pre x W Kk hI hKk
    have HKk := hide hKk
    have HI' := hide hI
    clear hKk hI
    simp only [encI]
    generalize G.getD x.val 0 = gx at *
    gi_wp2
    refine HKk.out _ _ (KeepsFrom.of_grownBy (grown_of_below (below_refl W)) (fun j e => by cases e)) rfl HI'.out ?_
    exact wkv_ex rfl
  case body =>
    rintro lp pre x a' W hlp hr hI ⟨u, rfl⟩ hlen
    have bB := hI.kb.kp _ _ _ HBs.out.2.2.2.1 (by decide) (by decide) (by decide)
    have HD := hide (dropX_e W Bx t pm n hI.st (by omega) hGb.out.1 hGb.out.2.1 hGb.out.2.2 x (bB.cell 0))
    have b5 := hI.kb.kp _ _ _ HBs.out.2.1 (by decide) (by decide) (by decide)
    have c5 := b5.cell 0
    simp only [dropF] at c5
    have HI' := hide hI
    clear hI b5 bB
    simp only [wkV]
    generalize G.getD x.val 0 = gx at *
    gi_wp2_with (first
      | (first | refine ⟨trivial, ?_⟩ | refine ⟨trivial, (fun h => absurd h (by decide)), ?_⟩); gi_at_call 41; refine CallsIn.mono (CallsIn.inRound _ (callsIn_wide.2 HD.out)) ?_; rintro e' w1 ⟨rfl, hst, ho⟩; have HG := hide (And.intro hst ho); clear hst ho)
    exact DkI.step HI'.out HG.out.1 HG.out.2 h0.1 h0.2.1 HBs.out.2.2.2.2.2 ht9 hm9
  case done =>
    rintro D xs W hD rfl hI hK0
    have b6 := hI.kb.kp _ _ _ HBs.out.2.2.1 (by decide) (by decide) (by decide)
    have z6 := b6.cell 0
    have f6 := b6.frozen 0
    have HL := hide (fun tm hm => (show LeavesInM Fence.wide 9 Tryz.prog Tryz.f39 tm (fun e w' => e = .returned (.int .i64 0) ∧ DkE w w' B0 t pm n base P K F N G) _ .returning _ from (let ⟨P', K', L', q1, _⟩ := hI.st; wk_leaveX (tmps := tm) Tryz.results39 q1.tr hI.ss b6 hK0 (by omega) (by omega) (by omega) (by omega) h0.1 h0.2.2.1 (by omega) hm (fun w' sv' he => ⟨rfl, dk_end hI HK0.out he ha6⟩))))
    clear hI hK0 b6
    go_wp2
    exact HL.out _ (by rfl)
  case stop =>
    rintro D cd pre W hD _ hx hK0
    exact hx.elim
end Go.Proofs.YthgclfhfipfknaaGreat
