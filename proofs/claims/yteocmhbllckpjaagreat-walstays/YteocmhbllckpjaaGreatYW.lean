/- What brings pages home. -/
/- Steps, with a cut that may lengthen a file. -/
/- Pages brought home, wherever it crashes. Plain. -/
/- Checkpoint, on a disk that may crash. -/
/- A disk that is started again; what a log tells at its last mark. -/
/- Commits and checkpoints, as the statements on crashes see them. -/
/- One change of a log: do. -/
/- The walk of WalAtomic. -/
/- Commits and checkpoints, seen at all marks. -/
/- One commit without a crash: do, as WalStays calls it. -/
/- The walk of WalStays. -/
/- Proved here: for every list of changes, every list of numbers and every list of choices the Go function bureaulaw07.WalAtomic returns true, whatever is in memory: whenever the machine stops within a commit or a checkpoint of the log, what is told at the last mark is after the restart what it was before or what the change made of it. No condition. -/
/- Proved here: for every list of changes and every number the Go function bureaulaw07.WalStays returns true, whatever is in memory: what is told at a mark stays, while later commits come and while a checkpoint brings home what lies before it; and a checkpoint at the last mark leaves a database that tells the same without a log. No condition. -/
import Derived.Test.YteocmhbllckpjaaGreatYJ
import Derived.Test.YteocmhbllckpjaaGreatXH
import Derived.Test.YteocmhbllckpjaaGreatXM
import Derived.Test.YteocmhbllckpjaaGreatRows
import Derived.SizedLaws
import Derived.Deep.Slices
import Derived.Carry
namespace Go.Proofs.YteocmhbllckpjaaGreat
open Go.ChangeShapes Go.WideShapes Go.ChangeAt Go.RowKit
open Go.ChangeMaps (setBlock)
set_option linter.unusedVariables false

theorem StA.congrS {w : World} {b : Nat} {p : Option Addr} {n : Nat} {S S' : Nat → Stp} (h : StA w b p n S) (he : ∀ k, k < n → S k = S' k) : StA w b p n S' := fun h0 => by
  obtain ⟨g, cur, e, hb, hc⟩ := h h0
  exact ⟨g, cur, e, hb, fun k hk => by rw [← he k hk]; exact hc k hk⟩
/-- What is brought home of a log up to a mark. -/
structure Hom (N : Nat → Nat) (M count n : Nat) (T : Nat → Nat) : Prop where
  few : n ≤ M
  low : ∀ j, j < n → 1 ≤ T j ∧ T j ≤ count ∧ ∃ x, x < M ∧ N x = T j
  all : ∀ p, 1 ≤ p → p ≤ count → (∃ x, x < M ∧ N x = p) → ∃ j, j < n ∧ T j = p
def homP (N : Nat → Nat) (P : Nat → List UInt8) (M : Nat) (T : Nat → Nat) : Nat → List UInt8 := fun j => foldP N P (T j) z256 (List.range M)
structure HmI (b g0 base mb M : Nat) (tx : ByteArray) (K : Nat) (D : DataW Value) (p : Option Addr) (n : Nat) (KS : Nat → Nat) (S : Nat → Stp) (w2 wq : World) (q : Option Addr) (k c' : Nat) : Prop where
  st : StO wq base b (.slice q (2 + k) c') (2 + k) S
  gr : w2.grownBy wq none
  ks : IntA wq p n KS
  mp : wq.ownsMap Tryz.prog 3 heldR mb M D
  lg : Blk wq g0 (lc b tx (K : Int)) 93
theorem HmI.step {b g0 base mb M : Nat} {tx : ByteArray} {K : Nat} {D : DataW Value} {p : Option Addr} {n : Nat} {KS : Nat → Nat} {S S' : Nat → Stp} {w2 wq V W : World} {q q' : Option Addr} {k k' c' c2 : Nat} (h : HmI b g0 base mb M tx K D p n KS S w2 wq q k c') (hb : w2.heap.size ≤ base) (hg : wq.grownBy V none) (ha : App base V W) (ho : ∀ (k : Nat) (o : Obj), o.isCells = false → V.heap[k]? = some o → W.heap[k]? = some o) (hs : StO W base b (.slice q' (2 + k') c2) (2 + k') S') : HmI b g0 base mb M tx K D p n KS S' w2 W q' k' c2 :=
  ⟨hs, ha.grown w2 hb (grown_trans' h.gr hg), (h.ks.grown hg).app ha, own_kept (h.mp.kept hg (by simp)) ho, ha.lcb (h.lg.grown hg)⟩
def HomRes (N : Nat → Nat) (P : Nat → List UInt8) (K M count b : Nat) (e : Ending) (w' : World) : Prop := ∃ q c' n T, e = .returned (.slice q (2 + n + (if M = K then 4 else 2)) c') ∧ Hom N M count n T ∧ StA w' b q (2 + n + (if M = K then 4 else 2)) (homS K count n T (homP N P M T))
theorem HomRes.mk {N : Nat → Nat} {P : Nat → List UInt8} {K M count b : Nat} {w' : World} (m : Nat) (hm : (if M = K then 4 else 2 : Nat) = m) (q : Option Addr) (c' n : Nat) (T : Nat → Nat) (h : Hom N M count n T) (hA : StA w' b q (2 + n + m) (homS K count n T (homP N P M T))) : HomRes N P K M count b (.returned (.slice q (2 + n + m) c')) w' := ⟨q, c', n, T, by rw [hm], h, by rw [hm]; exact hA⟩
theorem zero167r (V : World) : (zeroValue 167).run Tryz.prog V = .ok (.agg Tryz.zeroCells167) V := by kernel_rfl
theorem look_frame {w : World} {mb n M : Nat} {N E : Nat → Nat} {P : Nat → List UInt8} (h : w.ownsMap Tryz.prog 3 heldR mb n (mpD N E P (List.range M))) {x : Nat} (hx : ∃ y, y < M ∧ N y = x) (hx4 : x ≤ 4096) : ∃ e, (Instr.lookup 177 (.map (some mb)) (.int .i64 (x : Int)) false).run Tryz.prog w = .ok (.agg (fcl (x : Int) (foldP N P x z256 (List.range M)) e true).toArray) w := by
  obtain ⟨v, ps, h1, h2⟩ := h.lookup (Maps.int_keyed Tryz.underlying3) Tryz.underlying177 (zero167r w) (zd := .held (.agg Tryz.zeroCells167)) (zp := []) rfl (Maps.keyOf_int_mk Tryz.underlying3 (num_wf hx4))
  obtain ⟨e, h3⟩ := mpD_at N E P x (.held (.agg Tryz.zeroCells167)) z256 (List.range M) (range_mem.2 hx)
  rw [h3] at h2
  have hv : v = .agg (fcl (x : Int) (foldP N P x z256 (List.range M)) e true).toArray := by
    unfold heldR at h2
    simp only [Option.some.injEq, Prod.mk.injEq, DataW.held.injEq] at h2
    exact h2.1
  exact ⟨e, by rw [h1, hv]⟩

theorem sortedN_w (w : World) (mb : Nat) (N E : Nat → Nat) (P : Nat → List UInt8) (M : Nat) (hM : M ≤ 180) (hown : w.ownsMap Tryz.prog 3 heldR mb M (mpD N E P (List.range M))) :
    Calls Tryz.prog 94 #[.func (.func 131) #[] #[.pointer (some ⟨w.heap.size, 0, none⟩)]] (w.alloc (.cells #[.map (some mb)] 177)) fun e w' => (∃ p cap, ∃ ks : List Nat, e = .returned (.slice p ks.length cap) ∧ IntA w' p ks.length (fun k => ks.getD k 0) ∧ (∀ k, k ∈ ks ↔ ∃ x, x < M ∧ N x = k) ∧ ks.length ≤ M) ∧ w.grownBy w' none := by
  refine (sorted_w w mb M N E P (List.range M) hown (by simp; omega)).mono ?_
  rintro e w' ⟨⟨v, ss, rfl, hrow, hmem, hlen⟩, hg⟩
  have hnn : ∀ x ∈ ss, ((x.toNat : Nat) : Int) = x := fun x hx => by
    obtain ⟨y, _, e⟩ := (hmem x).1 hx
    omega
  have hl : (ss.map Int.toNat).length = ss.length := List.length_map _
  obtain ⟨p, cap, rfl, hI⟩ := own_ints hrow rfl (fun k => (ss.map Int.toNat).getD k 0) (fun k x hx => by
    have : (ss.map Int.toNat).getD k 0 = x.toNat := by simp [List.getD, hx]
    rw [this, hnn x (List.mem_of_getElem? hx)])
  refine ⟨⟨p, cap, ss.map Int.toNat, by rw [hl], by rw [hl]; exact hI, fun k => ?_, by rw [hl]; simpa using hlen⟩, grown_trans' (World.grownBy_alloc _ _ _) hg⟩
  rw [List.mem_map]
  constructor
  · rintro ⟨x, hx, rfl⟩
    obtain ⟨y, hy, e⟩ := (hmem x).1 hx
    exact ⟨y, List.mem_range.1 hy, by omega⟩
  · rintro ⟨x, hx, rfl⟩
    exact ⟨(N x : Int), (hmem _).2 ⟨x, List.mem_range.2 hx, rfl⟩, by simp⟩

set_option maxHeartbeats 8000000 in
set_option maxRecDepth 20000 in
theorem bringHome_w (w : World) (b : Nat) (t : List UInt8) (K : Nat) (hK : K ≤ 180) (N E : Nat → Nat) (P : Nat → List UInt8) (h : Frs t K N E P) (ha : Fra N E P) (M : Nat) (hM : M ≤ K) (count : Nat) (hcount : count ≤ 4096) :
    Calls Tryz.prog 50 #[lgV b t K, .int .i64 (M : Int), .int .i64 (count : Int)] w fun e w' => HomRes N P K M count b e w' ∧ w.grownBy w' none := by
  obtain ⟨tx, htx⟩ : ∃ tx, tx = bstr t := ⟨_, rfl⟩
  have hb0 : Blk (w.alloc (.cells #[.pointer (some ⟨b, 0, none⟩), .string tx, .int .i64 (K : Int)] 93)) w.heap.size (lc b tx (K : Int)) 93 := alloc_new _ _
  have HG := hideJ (World.grownBy_alloc w (.cells #[.pointer (some ⟨b, 0, none⟩), .string tx, .int .i64 (K : Int)] 93) none)
  have HB := hideJ hb0
  have HRn := hideJ (fun V => renew_w V b tx K (by omega))
  have HLp : Hid (∀ V, Calls Tryz.prog 93 #[.agg #[.pointer (some ⟨b, 0, none⟩), .string tx, .int .i64 (K : Int)], .int .i64 (M : Int)] V fun x w' => (∃ mb, x = .returned (.map (some mb)) ∧ V.heap.size ≤ mb ∧ w'.ownsMap Tryz.prog 3 heldR mb M (mpD N E P (List.range M))) ∧ V.grownBy w' none) := fun V => by
    rw [htx]
    exact (logPages_w V b t K hK N E P h ha M hM).mono (fun e w' hx => ⟨hx.1, grown_of_below hx.2⟩)
  have HKy := hideJ keys_w
  have HSo := hideJ (fun V mb (hm : V.ownsMap Tryz.prog 3 heldR mb M (mpD N E P (List.range M))) => sortedN_w V mb N E P M (by omega) hm)
  have HSyD := hideJ (fun V => sync_c V b tx (K : Int) nmD)
  have HSyJ := hideJ (fun V => sync_c V b tx (K : Int) nmJ)
  have HPh : Hid (∀ V, Calls Tryz.prog 92 #[.agg #[.pointer (some ⟨b, 0, none⟩), .string tx, .int .i64 (K : Int)], .int .i64 0] V fun e w' => (∃ v, e = .returned v ∧ SV w' b (.put nmJ 0 (bstr (sealB 0 0 0 0))) v) ∧ V.grownBy w' none) := fun V => putHead_w V b tx (K : Int) 0 (by omega)
  have HCt : Hid (∀ V, Calls Tryz.prog 96 #[.agg #[.pointer (some ⟨b, 0, none⟩), .string tx, .int .i64 (K : Int)], .string nmD, .int .i64 (256 * (count : Int))] V fun e w' => (∃ v, e = .returned v ∧ SV w' b (.cut nmD (256 * count)) v) ∧ V.grownBy w' none) := fun V => by
    have := cut_c V b tx (K : Int) nmD (256 * count)
    rwa [show ((256 * count : Nat) : Int) = 256 * (count : Int) by omega] at this
  have HFa := hideJ ha
  have HM : Hid (K ≤ 180 ∧ M ≤ K ∧ count ≤ 4096) := ⟨hK, hM, hcount⟩
  have HI93 := hideJ info93
  have HU24 := hideJ u24
  have HU93 := hideJ u93
  have hwc : IntKind.i64.wrap (256 * (count : Int)) = 256 * (count : Int) := by rw [IntKind.wrap_i64]; omega
  rw [show lgV b t K = .agg #[.pointer (some ⟨b, 0, none⟩), .string tx, .int .i64 (K : Int)] by rw [htx]]
  clear hb0 h ha htx hK hcount
  go_enter Tryz.func50, Tryz.ntmps50
  go_wp2_with (first
    | (go_at_call 88; (with_reducible refine Calls.mono (HRn.out _) ?_); rintro e w3 ⟨⟨v3, rfl, hst⟩, hg⟩; obtain ⟨p3, k3, rfl, -⟩ := hst.form; have HSt := hideJ hst; have HW3 := hideJ hg; have HB3 := hideJ (Blk.grown HB.out hg); clear hst hg)
    | ((with_reducible refine at93L ?_); refine wp_loadB (c := #[.pointer (some ⟨b, 0, none⟩), .string tx, .int .i64 (K : Int)]) HI93.out HU93.out HB3.out _ (by rfl) (by rfl) (by rfl) ?_)
    | (go_at_call 93; (with_reducible refine Calls.mono (HLp.out _) ?_); rintro e w4 ⟨⟨mb, rfl, hmb, hmp⟩, hg⟩; have HMp := hideJ hmp; have HW4 := hideJ (grown_trans' HW3.out hg); have HB4 := hideJ (Blk.grown HB3.out hg); have HSt4 := hideJ (StO.grown HSt.out hg); clear hg hmb hmp)
    | (go_at_call 95; (with_reducible refine Calls.mono (HKy.out _ _) ?_); rintro e w5 ⟨rfl, rfl⟩)
    | (go_at_call 94; (with_reducible refine Calls.mono (HSo.out _ _ HMp.out) ?_); rintro e w6 ⟨⟨p6, cap6, ks, rfl, hrow, hmem, hlen⟩, hg⟩; have HRow := hideJ hrow; have HMem := hideJ hmem; have HLen := hideJ hlen; have HW6 := hideJ (grown_trans' HW4.out hg); have HB6 := hideJ (Blk.grown HB4.out hg); have HSt6 := hideJ (StO.grown HSt4.out hg); have HMp6 := hideJ (HMp.out.kept hg (by simp)); clear hrow hmem hlen hg))
  obtain ⟨w2, hw2⟩ : ∃ w2, w2 = w.alloc (.cells #[.pointer (some ⟨b, 0, none⟩), .string tx, .int .i64 (K : Int)] 93) := ⟨_, rfl⟩
  rw [← hw2] at HG HW6 HSt6
  clear hw2
  obtain ⟨n, hn⟩ : ∃ n, n = ks.length := ⟨_, rfl⟩
  rw [← hn] at HRow HLen ⊢
  obtain ⟨T, hT⟩ : ∃ T : Nat → Nat, T = fun j => (homL count ks).getD j 0 := ⟨_, rfl⟩
  obtain ⟨RS, hRS⟩ : ∃ RS, RS = hdSt (sealB K 0 0 0) := ⟨_, rfl⟩
  rw [← hRS] at HSt6
  have HAs : Hid (∀ n L, homS K count n T L = catS (catS RS 2 (pgS T L)) (2 + n) (tlH count)) := fun n L => by rw [hRS]; rfl
  have HT := hideJ hT
  have HN := hideJ hn
  have h0 : HmI b w.heap.size w2.heap.size mb M tx K (mpD N E P (List.range M)) p6 n (fun k => ks.getD k 0) (catS RS 2 (pgS T (homP N P M T))) w2 w6 p3 0 k3 := ⟨HSt6.out.congr (fun k hk => (catS_lt hk).symm), HW6.out, HRow.out, HMp6.out, HB6.out⟩
  have HI0 := hideJ h0
  clear h0 hn hT hRS
  go_loopw [7, 21] (fun sv iv wq => ∃ (i : Nat) (q : Option Addr) (c' : Nat), i ≤ n ∧ iv = .int .i64 (i : Int) ∧ sv = .slice q (2 + (homL count (ks.take i)).length) c' ∧ HmI b w.heap.size w2.heap.size mb M tx K (mpD N E P (List.range M)) p6 n (fun k => ks.getD k 0) (catS RS 2 (pgS T (homP N P M T))) w2 wq q (homL count (ks.take i)).length c') (fun _ iv _ => n - (intOf iv).toNat)
  case atStart => exact ⟨0, p3, k3, Nat.zero_le _, rfl, rfl, HI0.out⟩
  case round =>
    obtain ⟨i, q, c', hi, rfl, rfl, hH⟩ := hrel
    by_cases hlt : i < n
    · obtain ⟨g, cur, rfl, hbI, hcI⟩ := hH.ks (by omega)
      have hxk : ∃ x, ks[i]? = some x := ⟨_, List.getElem?_eq_getElem (by have := HN.out; omega)⟩
      obtain ⟨x, hx⟩ := hxk
      have hgx : ks.getD i 0 = x := by simp [List.getD, hx]
      have cT := (Blk.cell hbI i).trans (hcI i hlt)
      simp only [hgx] at cT
      have hxm : ∃ y, y < M ∧ N y = x := (HMem.out x).1 (List.mem_of_getElem? hx)
      have hx4 : x ≤ 4096 := by obtain ⟨y, _, e⟩ := hxm; rw [← e]; exact HFa.out.num y
      have l1 : (i : Int) < (n : Int) := by omega
      have l0 : (0 : Int) ≤ (i : Int) := by omega
      have hw1 : IntKind.i64.wrap ((i : Int) + 1) = (i : Int) + 1 := by have := HM.out; have := HLen.out; rw [IntKind.wrap_i64]; omega
      have HK := hideJ hlt
      have HH := hideJ hH
      have HX := hideJ hx
      have HXm := hideJ hxm
      have HX4 := hideJ hx4
      clear hbI hcI hH hx hgx hxm hx4
      by_cases hp1 : 1 ≤ x
      · have l2 : ¬ (x : Int) < 1 := by omega
        by_cases hp2 : x ≤ count
        · have l3 : ¬ (count : Int) < (x : Int) := by omega
          have hF : homF count x = true := by unfold homF; simp [hp1, hp2]
          have HYs := hideJ (homL_yes HX.out hF)
          obtain ⟨e0, hlk⟩ := look_frame HH.out.mp HXm.out HX4.out
          obtain ⟨pg, hpg⟩ : ∃ pg, pg = foldP N P x z256 (List.range M) := ⟨_, rfl⟩
          have hpl : pg.length = 256 := by rw [hpg]; exact foldP_length HFa.out.pg z256_length _
          rw [← hpg] at hlk
          have hf1 := fun V => field_frame V (x : Int) pg e0 true hpl
          have hf2 := fun V => field_page V (x : Int) pg hpl
          have HI := hideJ (size24 hpl)
          have HA := hideJ (bytes_all pg)
          have HSz : Hid ((bcs pg).toArray.size = (bcs z256).toArray.size) := by show _ = _; rw [List.size_toArray, List.size_toArray, length_bcs, length_bcs, hpl, z256_length]
          have HNn := hideJ new24
          have hw2 : IntKind.i64.wrap ((x : Int) - 1) = (x : Int) - 1 := by have := HX4.out; rw [IntKind.wrap_i64]; omega
          have hw3 : IntKind.i64.wrap (256 * ((x : Int) - 1)) = 256 * ((x : Int) - 1) := by have := HX4.out; rw [IntKind.wrap_i64]; omega
          obtain ⟨s, hs⟩ : ∃ s, s = bstr pg := ⟨_, rfl⟩
          have HPc : Hid (∀ V, Calls Tryz.prog 89 #[.agg #[.pointer (some ⟨b, 0, none⟩), .string tx, .int .i64 (K : Int)], .string nmD, .int .i64 (256 * ((x : Int) - 1)), .string s] V fun e w' => (∃ v, e = .returned v ∧ SV w' b (.put nmD (256 * (x - 1)) s) v) ∧ V.grownBy w' none) := fun V => by
            have := put_c V b tx (K : Int) nmD s (256 * (x - 1))
            rwa [show ((256 * (x - 1) : Nat) : Int) = 256 * ((x : Int) - 1) by omega] at this
          have HCv : Hid (∀ V g, Blk V g (bcs pg).toArray 49 → (convert 62 9 (.slice (some ⟨g, 0, none⟩) 256 256)).run Tryz.prog V = .ok (.string s) V) := fun V g h => by rw [hs]; exact conv_blk hpl h 256
          have HS := hideJ hs
          have HPg := hideJ hpg
          clear hs hpg hpl hF
          obtain ⟨fc, hfc⟩ : ∃ fc, fc = (fcl (x : Int) pg e0 true).toArray := ⟨_, rfl⟩
          rw [← hfc] at hlk hf1
          clear hfc
          generalize (pcl (x : Int) pg).toArray = pc at hf1 hf2
          go_upto_region 8 with (first
            | ((with_reducible refine at24S ?_); refine wp_storeB (c := (bcs pg).toArray) HI.out HSz.out HA.out (HNn.out _) _ _ (by rfl) (by rfl) (by rfl) (by rfl) ?_; intro y2 hb5 ho5; have HBf := hideJ hb5; have HY2 := hideJ (grown_only (World.grownBy_alloc wr (.cells Tryz.zeroCells49 49) none) ho5 (Nat.le_refl _)); clear hb5 ho5))
          obtain ⟨k, hk⟩ : ∃ k, k = (homL count (ks.take i)).length := ⟨_, rfl⟩
          have HKl : Hid (k ≤ i) := by show k ≤ i; rw [hk]; exact homL_len count ks i
          rw [← hk] at HH HYs ⊢
          have HKd := hideJ hk
          clear hk
          have HBy := hideJ (Blk.grown HH.out.lg HY2.out)
          have HSG : Hid (∀ V, y2.drew.grownBy V none → V.cell? ⟨w.heap.size, 0, none⟩ = some (.pointer (some ⟨b, 0, none⟩)) ∧ V.cell? ⟨w.heap.size, 1, none⟩ = some (.string tx) ∧ V.cell? ⟨w.heap.size, 2, none⟩ = some (.int .i64 (K : Int)) ∧ (convert 62 9 (.slice (some ⟨wr.heap.size, 0, none⟩) 256 256)).run Tryz.prog V = .ok (.string s) V) := fun V hV => by
            have h1 := lc_cells ((blk_drew HBy.out).grown hV)
            exact ⟨h1.1, h1.2.1, h1.2.2, HCv.out V wr.heap.size ((blk_drew HBf.out).grown hV)⟩
          have HSA : Hid (∀ U V, y2.drew.grownBy U none → App w2.heap.size U V → V.cell? ⟨w.heap.size, 0, none⟩ = some (.pointer (some ⟨b, 0, none⟩)) ∧ V.cell? ⟨w.heap.size, 1, none⟩ = some (.string tx) ∧ V.cell? ⟨w.heap.size, 2, none⟩ = some (.int .i64 (K : Int)) ∧ (convert 62 9 (.slice (some ⟨wr.heap.size, 0, none⟩) 256 256)).run Tryz.prog V = .ok (.string s) V) := fun U V hV ha => by
            have h1 := lc_cells (ha.lcb ((blk_drew HBy.out).grown hV))
            exact ⟨h1.1, h1.2.1, h1.2.2, HCv.out V wr.heap.size (ha.blk _ _ _ (by decide) ((blk_drew HBf.out).grown hV))⟩
          have HS0 := hideJ (HSG.out _ (grown_refl _))
          clear hlk hf1 hf2 cT
          go_region_held3 (fun V => V.cell? ⟨w.heap.size, 0, none⟩ = some (.pointer (some ⟨b, 0, none⟩)) ∧ V.cell? ⟨w.heap.size, 1, none⟩ = some (.string tx) ∧ V.cell? ⟨w.heap.size, 2, none⟩ = some (.int .i64 (K : Int)) ∧ (convert 62 9 (.slice (some ⟨wr.heap.size, 0, none⟩) 256 256)).run Tryz.prog V = .ok (.string s) V) (first | with_reducible exact HS0.out | with_reducible exact HS2.out | with_reducible exact HS3.out | with_reducible exact HS4.out) (first
            | (go_at_call 89; (with_reducible refine Calls.mono (HPc.out _) ?_); rintro e y4 ⟨⟨u4, rfl, a1, a2, a3, a4, rfl, hv4⟩, hg⟩; have HV4 := hideJ (mkPut hv4); have HY4 := hideJ hg; have HS2 := hideJ (HSG.out _ hg); have HS3 := hideJ (HSG.out _ (grown_trans' hg (World.grownBy_alloc y4 (.cells #[fun4 124 a1 a2 a3 a4] 171) none))); clear hv4 hg)
            | (refine step_appH (n := 2 + k) (m := 1) (b := b) (base := w2.heap.size) (S := catS RS 2 (pgS T (homP N P M T))) (S' := fun _ => .put nmD (256 * (x - 1)) s) [fun4 124 a1 a2 a3 a4] (((HH.out.st.grown HY2.out).grown (World.grownBy_drew _)).grown HY4.out) rfl (by omega) (one_sv HV4.out) (by intro u hu; simp at hu; rw [hu]; rfl) (by have := HM.out; have := HK.out; have := HKl.out; have := HLen.out; omega) (Nat.le_trans HH.out.gr.size (Nat.le_trans HY2.out.size HY4.out.size)) _ _ (by rfl) (by rfl) (by rfl) (by rfl) ?_; intro p5 k5 w5 hst5 hap5 hoth5; have HSt5 := hideJ hst5; have HAp5 := hideJ hap5; have HOt5 := hideJ hoth5; have HS4 := hideJ (HSA.out _ _ HY4.out hap5); clear hst5 hap5 hoth5))
          all_goals (try go_wp2)
          have hlen1 : (homL count (ks.take (i + 1))).length = k + 1 := by rw [HYs.out.1, List.length_append, ← HKd.out]; rfl
          refine ⟨⟨i + 1, p5, k5, HK.out, rfl, by rw [hlen1]; rfl, ?_⟩, ?_⟩
          · rw [hlen1]
            refine HH.out.step (Nat.le_refl _) (grown_trans' (grown_trans' HY2.out (World.grownBy_drew _)) HY4.out) HAp5.out HOt5.out (StO.congr HSt5.out (fun j hj => ?_))
            by_cases e : j < 2 + k
            · exact catS_lt e
            · obtain rfl : j = 2 + k := by omega
              have e1 : catS (catS RS 2 (pgS T (homP N P M T))) (2 + k) (fun _ => Stp.put nmD (256 * (x - 1)) s) (2 + k) = .put nmD (256 * (x - 1)) s := if_neg (by omega)
              have e2 : T k = x := by rw [HT.out]; exact HYs.out.2
              rw [e1, catS_ge]
              show _ = Stp.put nmD (256 * (T k - 1)) (bstr (foldP N P (T k) z256 (List.range M)))
              rw [e2, HS.out, HPg.out]
          · simp only [intOf]; have := HK.out; omega
        · have l3 : (count : Int) < (x : Int) := by omega
          have hF : homF count x = false := by unfold homF; simp; omega
          have HNo := hideJ (homL_no HX.out hF)
          clear hF
          go_wp2
          refine ⟨⟨i + 1, q, c', HK.out, rfl, by rw [HNo.out], by rw [HNo.out]; exact HH.out⟩, ?_⟩
          simp only [intOf]; have := HK.out; omega
      · have l2 : (x : Int) < 1 := by omega
        have hF : homF count x = false := by unfold homF; simp; omega
        have HNo := hideJ (homL_no HX.out hF)
        clear hF
        go_wp2
        refine ⟨⟨i + 1, q, c', HK.out, rfl, by rw [HNo.out], by rw [HNo.out]; exact HH.out⟩, ?_⟩
        simp only [intOf]; have := HK.out; omega
    · obtain rfl : i = n := by omega
      have hall : homL count (ks.take i) = homL count ks := by rw [HN.out, List.take_length]
      rw [hall] at hH ⊢
      obtain ⟨nn, hnn⟩ : ∃ nn, nn = (homL count ks).length := ⟨_, rfl⟩
      rw [← hnn] at hH ⊢
      have HHom : Hid (Hom N M count nn T) := by
        have hl := homL_len count ks ks.length
        rw [List.take_length] at hl
        refine ⟨by have := HLen.out; have := HN.out; omega, fun j hj => ?_, fun p p1 p2 hp => ?_⟩
        · have hm : T j ∈ homL count ks := by rw [HT.out]; show (homL count ks).getD j 0 ∈ _; rw [getD_at (by omega)]; exact List.getElem_mem _
          have := homL_mem.1 hm
          exact ⟨this.2.1, this.2.2, (HMem.out _).1 this.1⟩
        · obtain ⟨j, hj, e⟩ := List.getElem_of_mem (homL_mem.2 ⟨(HMem.out p).2 hp, p1, p2⟩)
          exact ⟨j, by omega, by rw [HT.out]; show (homL count ks).getD j 0 = p; rw [getD_at hj]; exact e⟩
      have HNn : Hid (nn ≤ 180) := by have := HHom.out.few; have := HM.out; show nn ≤ 180; omega
      have HH := hideJ hH
      clear hH hall hnn hi hlt
      go_upto_region 10 with fail
      have HSG : Hid (∀ V, wr.drew.grownBy V none → V.cell? ⟨w.heap.size, 0, none⟩ = some (.pointer (some ⟨b, 0, none⟩)) ∧ V.cell? ⟨w.heap.size, 1, none⟩ = some (.string tx) ∧ V.cell? ⟨w.heap.size, 2, none⟩ = some (.int .i64 (K : Int))) := fun V hV => lc_cells ((blk_drew HH.out.lg).grown hV)
      have HS0 := hideJ (HSG.out _ (grown_refl _))
      go_region_held3 (fun V => V.cell? ⟨w.heap.size, 0, none⟩ = some (.pointer (some ⟨b, 0, none⟩)) ∧ V.cell? ⟨w.heap.size, 1, none⟩ = some (.string tx) ∧ V.cell? ⟨w.heap.size, 2, none⟩ = some (.int .i64 (K : Int))) (first | with_reducible exact HS0.out | with_reducible exact HS1.out | with_reducible exact HS2.out | with_reducible exact HS3.out | with_reducible exact HS5.out) (first
        | (go_at_call 96; (with_reducible refine Calls.mono (HCt.out _) ?_); rintro e y1 ⟨⟨u1, rfl, a1, a2, a3, rfl, hv1⟩, hg⟩; have HV1 := hideJ (mkCut hv1); have HY1 := hideJ hg; have HS1 := hideJ (HSG.out _ hg); clear hv1 hg)
        | (go_at_call 91; (with_reducible refine Calls.mono (HSyD.out _) ?_); rintro e y2 ⟨⟨u2, rfl, d1, d2, rfl, hv2⟩, hg⟩; have HV2 := hideJ (mkSync hv2); have HV1 := hideJ (HV1.out.grown hg); have HY2 := hideJ (grown_trans' HY1.out hg); have HS2 := hideJ (HSG.out _ (grown_trans' HY1.out hg)); have HS3 := hideJ (HSG.out _ (grown_trans' (grown_trans' HY1.out hg) (World.grownBy_alloc y2 (.cells #[fun3 132 a1 a2 a3, fun2 126 d1 d2] 171) none))); clear hv2 hg)
        | (refine step_appF (n := 2 + nn) (m := 2) (b := b) (base := w2.heap.size) (S := catS RS 2 (pgS T (homP N P M T))) [fun3 132 a1 a2 a3, fun2 126 d1 d2] (S' := tlH count) ((HH.out.st.grown (World.grownBy_drew _)).grown HY2.out) rfl (by omega) (two_svC HV1.out HV2.out) two_oneC (by have := HNn.out; omega) (Nat.le_trans HH.out.gr.size HY2.out.size) _ _ (by rfl) (by rfl) (by rfl) (by rfl) ?_; intro p5 k5 w5 hst5 hap5; have HSt5 := hideJ hst5; have HAp5 := hideJ hap5; have HS5 := hideJ (lc_cells (hap5.lcb ((blk_drew HH.out.lg).grown HY2.out))); have HL5 := hideJ (hap5.lcb ((blk_drew HH.out.lg).grown HY2.out)); clear hst5 hap5))
      have HG5 := hideJ (HAp5.out.grown w2 (Nat.le_refl _) (grown_trans' (grown_trans' HH.out.gr (World.grownBy_drew _)) HY2.out))
      have c2 := HS5.out.2.2
      by_cases hMK : M = K
      · have hq : ((M : Int) == (K : Int)) = true := by simp [hMK]
        have hq2 : decide ((M : Int) = (K : Int)) = true := by simp [hMK]
        have HMK := hideJ hMK
        clear hMK
        go_upto_region 12 with fail
        have HSG2 : Hid (∀ V, w5.drew.grownBy V none → V.cell? ⟨w.heap.size, 0, none⟩ = some (.pointer (some ⟨b, 0, none⟩)) ∧ V.cell? ⟨w.heap.size, 1, none⟩ = some (.string tx) ∧ V.cell? ⟨w.heap.size, 2, none⟩ = some (.int .i64 (K : Int))) := fun V hV => lc_cells ((blk_drew HL5.out).grown hV)
        have HT0 := hideJ (HSG2.out _ (grown_refl _))
        clear c2
        go_region_held3 (fun V => V.cell? ⟨w.heap.size, 0, none⟩ = some (.pointer (some ⟨b, 0, none⟩)) ∧ V.cell? ⟨w.heap.size, 1, none⟩ = some (.string tx) ∧ V.cell? ⟨w.heap.size, 2, none⟩ = some (.int .i64 (K : Int))) (first | with_reducible exact HT0.out | with_reducible exact HT1.out | with_reducible exact HT2.out | with_reducible exact HT3.out | with_reducible exact HT5.out) (first
          | (go_at_call 92; (with_reducible refine Calls.mono (HPh.out _) ?_); rintro e z1 ⟨⟨u1, rfl, b1, b2, b3, b4, rfl, hv1⟩, hg⟩; have HX1 := hideJ (mkPut hv1); have HZ1 := hideJ hg; have HT1 := hideJ (HSG2.out _ hg); clear hv1 hg)
          | (go_at_call 91; (with_reducible refine Calls.mono (HSyJ.out _) ?_); rintro e z2 ⟨⟨u2, rfl, e1, e2, rfl, hv2⟩, hg⟩; have HX2 := hideJ (mkSync hv2); have HX1 := hideJ (HX1.out.grown hg); have HZ2 := hideJ (grown_trans' HZ1.out hg); have HT2 := hideJ (HSG2.out _ (grown_trans' HZ1.out hg)); have HT3 := hideJ (HSG2.out _ (grown_trans' (grown_trans' HZ1.out hg) (World.grownBy_alloc z2 (.cells #[fun4 124 b1 b2 b3 b4, fun2 126 e1 e2] 171) none))); clear hv2 hg)
          | (refine step_appF (n := 2 + nn + 2) (m := 2) (b := b) (base := w2.heap.size) (S := catS (catS RS 2 (pgS T (homP N P M T))) (2 + nn) (tlH count)) [fun4 124 b1 b2 b3 b4, fun2 126 e1 e2] (S' := fun k => tlH count (2 + k)) ((HSt5.out.grown (World.grownBy_drew _)).grown HZ2.out) rfl (by omega) (two_svH HX1.out HX2.out) two_oneH (by have := HNn.out; omega) (Nat.le_trans HG5.out.size HZ2.out.size) _ _ (by rfl) (by rfl) (by rfl) (by rfl) ?_; intro p7 k7 w7 hst7 hap7; have HSt7 := hideJ hst7; have HAp7 := hideJ hap7; have HT5 := hideJ (lc_cells (hap7.lcb ((blk_drew HL5.out).grown HZ2.out))); clear hst7 hap7))
        all_goals (try go_wp2)
        go_ret
        obtain ⟨q7, c7, e7, hA⟩ := HSt7.out.form
        cases e7
        have hif : (if M = K then 4 else 2 : Nat) = 4 := if_pos HMK.out
        have hG7 := HAp7.out.grown w2 (Nat.le_refl _) (grown_trans' (grown_trans' HG5.out (World.grownBy_drew _)) HZ2.out)
        refine ⟨HomRes.mk 4 hif p7 k7 nn T HHom.out ?_, grown_trans' HG.out hG7⟩
        rw [HAs.out]
        refine hA.congrS (fun j hj => ?_)
        by_cases c1 : j < 2 + nn + 2
        · exact catS_lt c1
        · obtain ⟨m, rfl⟩ : ∃ m, j = 2 + nn + 2 + m := ⟨j - (2 + nn + 2), by omega⟩
          rw [catS_ge, show 2 + nn + 2 + m = 2 + nn + (2 + m) by omega, catS_ge]
      · have hq : ¬ (M : Int) = (K : Int) := by omega
        have HMK := hideJ hMK
        clear hMK
        go_wp2
        go_ret
        obtain ⟨q5, c5, e5, hA⟩ := HSt5.out.form
        cases e5
        have hif : (if M = K then 4 else 2 : Nat) = 2 := if_neg HMK.out
        exact ⟨HomRes.mk 2 hif p5 k5 nn T HHom.out (by rw [HAs.out]; exact hA), grown_trans' HG.out HG5.out⟩
end Go.Proofs.YteocmhbllckpjaaGreat

namespace Go.Proofs.YteocmhbllckpjaaGreat
open Go.ChangeShapes Go.WideShapes Go.ChangeAt Go.RowKit
open Go.ChangeMaps (setBlock)
set_option linter.unusedVariables false

/-- A step may be: a cut may lengthen a file where there is room. -/
def Stp.okr (r : Int) (f : Vw) : Stp → Prop
  | .put nm at_ d => (Stp.put nm at_ d).ok f
  | .cut nm n => (nm = nmD ∨ nm = nmJ) ∧ n ≤ 60000 ∧ (n ≤ (f nm).length ∨ (f.tot : Int) + ((n : Int) - ((f nm).length : Int)) ≤ r)
  | .sync nm => True
theorem cut_run2 (w : World) (base b : Nat) (D : DS) (who : Nat → Nat) (R : Rep w base b D who) {r : Int} {i : Nat} (h : JI r D i) (hi : i ≤ 20000) (nm : ByteArray) (n : Nat) (hok : (Stp.cut nm n).okr r (seenOf D)) (k1 k2 k3 : Nat)
    (h1 : Rc w k1 b) (h2 : Blk w k2 #[.string nm] 9) (h3 : Blk w k3 #[.int .i64 (n : Int)] 3) :
    Calls Tryz.prog 132 #[.pointer (some ⟨k1, 0, none⟩), .pointer (some ⟨k2, 0, none⟩), .pointer (some ⟨k3, 0, none⟩)] w fun e w' => ∃ x, e = .returned (.int .i64 x) ∧ Did r w base b D i (.cut nm n) x w' := by
  obtain ⟨hnm, hn, hl⟩ := hok
  obtain ⟨tx, la, h1⟩ := h1
  have c11 := (h1.cell 1).trans (show _ = some (Value.string tx) from rfl)
  have c12 := (h1.cell 2).trans (show _ = some (Value.int .i64 la) from rfl)
  have c1 := (h1.cell 0).trans (show _ = some (Value.pointer (some ⟨b, 0, none⟩)) from rfl)
  have c2 := (h2.cell 0).trans (show _ = some (Value.string nm) from rfl)
  have c3 := (h3.cell 0).trans (show _ = some (Value.int .i64 (n : Int)) from rfl)
  have hpd : (Stp.cut nm n).dn (psOf D) = ⟨keptOf D, D.chs ++ if n = (seenOf D nm).length then [] else [cutC nm n]⟩ := by
    show (⟨keptOf D, D.chs ++ if n = ((psOf D).see nm).length then [] else [cutC nm n]⟩ : PS) = _
    rw [h.toJX.see]
  have HW : Hid (∀ V, V = w → Calls Tryz.prog 133 #[.pointer (some ⟨b, 0, none⟩), .string nm, .int .i64 n] V fun e w' => ∃ x, e = .returned (.int .i64 x) ∧ Did r w base b D i (.cut nm n) x w') := fun V hV => by
    subst hV
    refine (cut_j V base b D who R h hi nm hnm n hn (by rw [← h.fl, h.total]; exact hl)).mono ?_
    rintro e w' ⟨rfl, D', who', hR, hJ, hC⟩
    exact ⟨_, rfl, hC.did trivial h.down hR hJ rfl hpd hpd⟩
  clear h1 h2 h3 h R hnm hn hl hpd
  go_enter Tryz.func132, Tryz.ntmps132
  go_wp2_with (go_at_call 133; with_reducible refine Calls.mono (HW.out _ rfl) ?_; rintro e w4 ⟨x, rfl, hD⟩; have HD := hideJ hD; clear hD)
  go_ret
  exact ⟨x, rfl, HD.out⟩
set_option maxHeartbeats 2000000 in
theorem do_any2 (w : World) (base b : Nat) (D : DS) (who : Nat → Nat) (R : Rep w base b D who) {r : Int} {i : Nat} (h : JI r D i) (p : Option Addr) (n cap : Nat) (S : Nat → Stp) (hS : StA w b p n S) (hin : i + n ≤ 20000)
    (hok : ∀ k, k < n → (∀ j, j < k → (S j).fits r (vw (seenOf D) S j)) → (S k).okr r (vw (seenOf D) S k)) :
    Calls Tryz.prog 48 #[.slice p n cap] w fun e w' => ∃ k x, e = .returned (.int .i64 x) ∧ Ends r D S n i k x w base b w' := by
  have HR := hideJ R
  have HI := hideJ h
  have HS := hideJ hS
  have HOk := hideJ hok
  have HN := hideJ hin
  have HF0 := hideJ h.fuse.1
  clear R h hS hok hin
  go_enter Tryz.func48, Tryz.ntmps48
  go_wp2
  go_loopw [8] (fun iv wr => ∃ (k : Nat) (Dk : DS) (whok : Nat → Nat), k ≤ n ∧ iv = .int .i64 (k : Int) ∧ RM w D wr base b Dk whok ∧ JI r Dk (i + k) ∧ seenOf Dk = vw (seenOf D) S k ∧ psOf Dk = pst (psOf D) S k ∧ Dk.fuse = (if D.fuse = 0 then 0 else D.fuse - k) ∧ (D.fuse = 0 ∨ (k : Int) < D.fuse) ∧ ∀ j, j < k → (S j).fits r (vw (seenOf D) S j)) (fun iv _ => n - (intOf iv).toNat)
  case atStart => exact ⟨0, D, who, Nat.zero_le _, rfl, RM.start HR.out, HI.out, rfl, rfl, by have := HF0.out; split <;> omega, by have := HF0.out; omega, fun j hj => by omega⟩
  case round =>
    obtain ⟨k, Dk, whok, hk, rfl, hRk, hJk, hsk, hpk, hfu, hlf, hfk⟩ := hrel
    have HRk := hideJ hRk
    have HJk := hideJ hJk
    have HSk := hideJ hsk
    have HPk := hideJ hpk
    have HFu := hideJ (And.intro hfu hlf)
    have HFk := hideJ hfk
    clear hRk hJk hsk hfk hpk hfu hlf
    by_cases hlt : k < n
    · obtain ⟨g, cur, rfl, hb, hc⟩ := (HS.out.moved HR.out HRk.out) (by omega)
      obtain ⟨v, hv, hsv⟩ := hc k hlt
      have cv := (Blk.cell hb k).trans hv
      have l1 : (k : Int) < (n : Int) := by omega
      have l0 : (0 : Int) ≤ (k : Int) := by omega
      have hw1 : IntKind.i64.wrap ((k : Int) + 1) = (k : Int) + 1 := by have := HN.out; rw [IntKind.wrap_i64]; omega
      have hokk := HOk.out k hlt HFk.out
      rw [← HSk.out] at hokk
      have HK := hideJ hlt
      have HNx : Hid (∀ {V : World} {D2 : DS} {who2 : Nat → Nat}, (S k).fits r (seenOf Dk) → Dk.fuse ≠ 1 → RM wr Dk V base b D2 who2 → JI r D2 (i + k + 1) → seenOf D2 = (S k).on (seenOf Dk) → psOf D2 = (S k).dn (psOf Dk) → D2.fuse = dec Dk.fuse → RM w D V base b D2 who2 ∧ JI r D2 (i + (k + 1)) ∧ seenOf D2 = vw (seenOf D) S (k + 1) ∧ psOf D2 = pst (psOf D) S (k + 1) ∧ D2.fuse = (if D.fuse = 0 then 0 else D.fuse - ((k + 1 : Nat) : Int)) ∧ (D.fuse = 0 ∨ ((k + 1 : Nat) : Int) < D.fuse) ∧ ∀ j, j < k + 1 → (S j).fits r (vw (seenOf D) S j)) := fun h1 hn1 h2 h3 h4 h5 h6 => by
        have hF := HFu.out
        refine ⟨HRk.out.trans h2, h3, ?_, ?_, ?_, ?_, fun j hj => ?_⟩
        · rw [h4, HSk.out]; rfl
        · rw [h5, HPk.out]; rfl
        · rw [h6, hF.1]
          unfold dec
          have := HF0.out
          split <;> split <;> omega
        · rw [hF.1] at hn1
          have := HF0.out
          by_cases e0 : D.fuse = 0
          · exact .inl e0
          · rw [if_neg e0] at hn1
            exact .inr (by have := hF.2; omega)
        · by_cases e : j = k
          · subst e; rw [← HSk.out]; exact h1
          · exact HFk.out j (by omega)
      have HEx : Hid (∀ {V : World}, ¬ (S k).fits r (seenOf Dk) → wr.grownBy V none → Ends r D S n i k 5 w base b V) := fun h1 h2 => .inl ⟨⟨by omega, HFk.out, .inr ⟨hlt, by rw [← HSk.out]; exact h1, rfl⟩⟩, HFu.out.2, Dk, whok, HRk.out.grown h2, HJk.out, HSk.out, HPk.out, HFu.out.1⟩
      have HCr : Hid (∀ {V : World} {D2 : DS} {who2 : Nat → Nat}, Dk.fuse = 1 → RM wr Dk V base b D2 who2 → JX r D2 (i + k + 1) → D2.down = true → psOf D2 = (S k).cr (psOf Dk) → Ends r D S n i k 7 w base b V) := fun hn1 h2 h3 h4 h5 => by
        refine .inr ⟨rfl, hlt, ?_, _, _, HRk.out.trans h2, h3, h4, by rw [h5, HPk.out]⟩
        have hF := HFu.out
        rw [hF.1] at hn1
        by_cases e0 : D.fuse = 0
        · rw [if_pos e0] at hn1; omega
        · rw [if_neg e0] at hn1; omega
      have hi : i + k ≤ 20000 := by have := HN.out; omega
      clear hb hc hv
      generalize hs : S k = s at hsv hokk HNx HEx HCr
      cases s with
      | put nm at_ d =>
        obtain ⟨k1, k2, k3, k4, rfl, b1, b2, b3, b4⟩ := hsv
        have HC := hideJ (put_run wr base b Dk whok HRk.out.rep HJk.out hi nm d at_ hokk k1 k2 k3 k4 b1 b2 b3 b4)
        clear b1 b2 b3 b4 hokk hs
        by_cases hfit : (Stp.put nm at_ d).fits r (seenOf Dk)
        · by_cases f1 : Dk.fuse = 1
          · have HC2 := hideJ (Did.cr HC.out hfit f1)
            clear HC
            go_wp2_with (go_at_call 124; with_reducible refine Calls.mono HC2.out ?_; rintro e w4 ⟨rfl, D4, who4, hR4, hJ4, hd4, hp4⟩; have HNew := hideJ (HCr.out f1 hR4 hJ4 hd4 hp4); clear hR4 hJ4 hd4 hp4)
            go_ret
            exact ⟨k, 7, rfl, HNew.out⟩
          · have HC2 := hideJ (Did.yes HC.out hfit f1)
            clear HC
            go_wp2_with (go_at_call 124; with_reducible refine Calls.mono HC2.out ?_; rintro e w4 ⟨rfl, D4, who4, hR4, hJ4, hs4, hp4, hf4⟩; have HNew := hideJ (HNx.out hfit f1 hR4 hJ4 hs4 hp4 hf4); clear hR4 hJ4 hs4 hp4 hf4)
            refine ⟨⟨k + 1, D4, who4, HK.out, rfl, HNew.out⟩, ?_⟩
            simp only [intOf]; have := HK.out; omega
        · have HC2 := hideJ (Did.no HC.out hfit)
          clear HC
          go_wp2_with (go_at_call 124; with_reducible refine Calls.mono HC2.out ?_; rintro e w4 ⟨rfl, hg4⟩; have HNew := hideJ (HEx.out hfit hg4); clear hg4)
          go_ret
          exact ⟨k, 5, rfl, HNew.out⟩
      | cut nm m =>
        obtain ⟨k1, k2, k3, rfl, b1, b2, b3⟩ := hsv
        have HC := hideJ (cut_run2 wr base b Dk whok HRk.out.rep HJk.out hi nm m hokk k1 k2 k3 b1 b2 b3)
        have hfit : (Stp.cut nm m).fits r (seenOf Dk) := trivial
        clear b1 b2 b3 hokk hs
        by_cases f1 : Dk.fuse = 1
        · have HC2 := hideJ (Did.cr HC.out hfit f1)
          clear HC
          go_wp2_with (go_at_call 132; with_reducible refine Calls.mono HC2.out ?_; rintro e w4 ⟨rfl, D4, who4, hR4, hJ4, hd4, hp4⟩; have HNew := hideJ (HCr.out f1 hR4 hJ4 hd4 hp4); clear hR4 hJ4 hd4 hp4)
          go_ret
          exact ⟨k, 7, rfl, HNew.out⟩
        · have HC2 := hideJ (Did.yes HC.out hfit f1)
          clear HC
          go_wp2_with (go_at_call 132; with_reducible refine Calls.mono HC2.out ?_; rintro e w4 ⟨rfl, D4, who4, hR4, hJ4, hs4, hp4, hf4⟩; have HNew := hideJ (HNx.out hfit f1 hR4 hJ4 hs4 hp4 hf4); clear hR4 hJ4 hs4 hp4 hf4)
          refine ⟨⟨k + 1, D4, who4, HK.out, rfl, HNew.out⟩, ?_⟩
          simp only [intOf]; have := HK.out; omega
      | sync nm =>
        obtain ⟨k1, k2, rfl, b1, b2⟩ := hsv
        have HC := hideJ (sync_run wr base b Dk whok HRk.out.rep HJk.out hi nm k1 k2 b1 b2)
        have hfit : (Stp.sync nm).fits r (seenOf Dk) := trivial
        clear b1 b2 hokk hs
        by_cases f1 : Dk.fuse = 1
        · have HC2 := hideJ (Did.cr HC.out hfit f1)
          clear HC
          go_wp2_with (go_at_call 126; with_reducible refine Calls.mono HC2.out ?_; rintro e w4 ⟨rfl, D4, who4, hR4, hJ4, hd4, hp4⟩; have HNew := hideJ (HCr.out f1 hR4 hJ4 hd4 hp4); clear hR4 hJ4 hd4 hp4)
          go_ret
          exact ⟨k, 7, rfl, HNew.out⟩
        · have HC2 := hideJ (Did.yes HC.out hfit f1)
          clear HC
          go_wp2_with (go_at_call 126; with_reducible refine Calls.mono HC2.out ?_; rintro e w4 ⟨rfl, D4, who4, hR4, hJ4, hs4, hp4, hf4⟩; have HNew := hideJ (HNx.out hfit f1 hR4 hJ4 hs4 hp4 hf4); clear hR4 hJ4 hs4 hp4 hf4)
          refine ⟨⟨k + 1, D4, who4, HK.out, rfl, HNew.out⟩, ?_⟩
          simp only [intOf]; have := HK.out; omega
    · obtain rfl : k = n := by omega
      go_wp2
      go_ret
      exact ⟨k, 0, rfl, .inl ⟨⟨Nat.le_refl _, HFk.out, .inl ⟨rfl, rfl⟩⟩, HFu.out.2, Dk, whok, HRk.out, HJk.out, HSk.out, HPk.out, HFu.out.1⟩⟩
theorem vw_len2 {r : Int} {f : Vw} {S : Nat → Stp} {n : Nat} (hok : ∀ k, k < n → (S k).okr r (vw f S k)) (hf : ∀ nm, (f nm).length ≤ 60000) : ∀ k, k ≤ n → ∀ nm, (vw f S k nm).length ≤ 60000
  | 0, _, nm => hf nm
  | k + 1, hk, nm => by
    have ih := vw_len2 hok hf k (by omega)
    have ho := hok k (by omega)
    show ((S k).on (vw f S k) nm).length ≤ 60000
    generalize S k = s at ho
    cases s with
    | put nm' a d =>
      by_cases e : nm = nm'
      · subst e
        show (Vw.set _ nm (wseen _ a d.data.toList) nm).length ≤ 60000
        have hl : d.data.toList.length = d.size := by rw [Array.length_toList]; rfl
        rw [set_same, length_wseen, hl]
        have := ih nm
        have := ho.2.2.2
        omega
      · rw [on_off (s := .put nm' a d) e]; exact ih nm
    | cut nm' m =>
      by_cases e : nm = nm'
      · subst e
        show (Vw.set _ nm (rsz _ m) nm).length ≤ 60000
        rw [set_same, length_rsz]
        exact ho.2.1
      · rw [on_off (s := .cut nm' m) e]; exact ih nm
    | sync nm' => exact ih nm
theorem fits_big2 {r : Int} (hr : 180000 ≤ r) {f : Vw} (hf : ∀ nm, (f nm).length ≤ 60000) {s : Stp} (ho : s.okr r f) : s.fits r f := by
  cases s with
  | put nm a d =>
    refine .inr ?_
    have h1 := hf nmD
    have h2 := hf nmJ
    have h3 := ho.2.2.2
    unfold Vw.tot
    omega
  | cut nm m => trivial
  | sync nm => trivial
theorem do_ok2 (w : World) (base b : Nat) (D : DS) (who : Nat → Nat) (R : Rep w base b D who) {r : Int} {i : Nat} (h : JI r D i) (p : Option Addr) (n cap : Nat) (S : Nat → Stp) (hS : StA w b p n S) (hin : i + n ≤ 20000) (hfit : ∀ k, k < n → (S k).fits r (vw (seenOf D) S k)) (hok : ∀ k, k < n → (S k).okr r (vw (seenOf D) S k)) (hf : D.fuse = 0 ∨ (n : Int) < D.fuse) :
    Calls Tryz.prog 48 #[.slice p n cap] w fun e w' => e = .returned (.int .i64 0) ∧ ∃ D' who', Dok r w D base b w' S n i D' who' := by
  refine (do_any2 w base b D who R h p n cap S hS hin (fun k hk _ => hok k hk)).mono ?_
  rintro e w' ⟨k, x, rfl, ⟨hF, _, D', who', h1, h2, h3, h4, h5⟩ | ⟨_, hk, h2, _⟩⟩
  · obtain ⟨rfl, rfl⟩ := hF.all (fun j hj => hfit j hj)
    exact ⟨rfl, D', who', h1, h2, h3, h4, h5⟩
  · exfalso; omega
theorem do_cr2 (w : World) (base b : Nat) (D : DS) (who : Nat → Nat) (R : Rep w base b D who) {r : Int} {i : Nat} (h : JI r D i) (p : Option Addr) (n cap : Nat) (S : Nat → Stp) (hS : StA w b p n S) (hin : i + n ≤ 20000) (hfit : ∀ k, k < n → (S k).fits r (vw (seenOf D) S k)) (hok : ∀ k, k < n → (S k).okr r (vw (seenOf D) S k)) (hf : ¬ (D.fuse = 0 ∨ (n : Int) < D.fuse)) {Q : List UInt8 → List UInt8 → Prop} (hQ : Run Q (psOf D) S n) :
    Calls Tryz.prog 48 #[.slice p n cap] w fun e w' => e = .returned (.int .i64 7) ∧ ∃ D' who', Dcr r w D base b w' Q i n D' who' := by
  have h0 := h.fuse.1
  refine (do_any2 w base b D who R h p n cap S hS hin (fun k hk _ => hok k hk)).mono ?_
  rintro e w' ⟨k, x, rfl, ⟨hF, hk, _⟩ | ⟨rfl, hk, h2, D', who', h3, h4, h5, h6⟩⟩
  · exfalso
    obtain ⟨rfl, rfl⟩ := hF.all (fun j hj => hfit j hj)
    omega
  · exact ⟨rfl, D', who', h3, h4.later (by omega), h5, by rw [h6]; exact hQ k hk⟩
theorem fits_all2 {r : Int} (hr : 180000 ≤ r) {f : Vw} {S : Nat → Stp} {n : Nat} (hok : ∀ k, k < n → (S k).okr r (vw f S k)) (hf : ∀ nm, (f nm).length ≤ 60000) (k : Nat) (hk : k < n) : (S k).fits r (vw f S k) := fits_big2 hr (vw_len2 hok hf k (by omega)) (hok k hk)
end Go.Proofs.YteocmhbllckpjaaGreat

namespace Go.Proofs.YteocmhbllckpjaaGreat
open Go.ChangeShapes Go.WideShapes Go.ChangeAt Go.RowKit
set_option linter.unusedVariables false

/-- Pages whose numbers no frame up to a mark bears lie in the database, and are there at every mark up to it. -/
def Iv (db : List UInt8) (M : Nat) (N E : Nat → Nat) : Prop := ∀ p, 1 ≤ p → p ≤ cntL db M E → (∀ x, x < M → N x ≠ p) → 256 * p ≤ db.length ∧ ∀ j, j < M → E j ≠ 0 → p ≤ E j - 1
def tlM (N : Nat → Nat) (M : Nat) : List Nat := (List.range M).map N
theorem mem_tlM {N : Nat → Nat} {M p : Nat} : p ∈ tlM N M ↔ ∃ x, x < M ∧ N x = p := by unfold tlM; simp [List.mem_map, List.mem_range]
theorem not_tlM {N : Nat → Nat} {M p : Nat} (h : p ∉ tlM N M) : ∀ x, x < M → N x ≠ p := fun x hx e => h (mem_tlM.2 ⟨x, hx, e⟩)
theorem iv_intact {db : List UInt8} {M : Nat} {N E : Nat → Nat} (h : Iv db M N E) : Intact db (cntL db M E) (tlM N M) db := fun p p1 p2 p3 => ⟨(h p p1 p2 (not_tlM p3)).1, rfl⟩
theorem cntL_pos {db db' : List UInt8} {M : Nat} {E : Nat → Nat} (h : 1 ≤ M) : cntL db M E = cntL db' M E := by unfold cntL; rw [if_neg (by omega), if_neg (by omega)]
/-- What is told at a mark, if the database keeps what no frame bears. -/
theorem at_intact {db X : List UInt8} {M : Nat} {N E : Nat → Nat} {P : Nat → List UInt8} (hI : Intact db (cntL db M E) (tlM N M) X) (hv : Iv db M N E) {p : Nat} (p1 : 1 ≤ p) (p2 : p ≤ cntL db M E) : pgAt X N P M p = pgAt db N P M p := by
  unfold pgAt
  by_cases c : p ∈ tlM N M
  · exact foldP_cov _ _ (range_mem.2 (mem_tlM.1 c))
  · have hn := not_tlM c
    rw [foldP_none _ (fun x hx => hn x (List.mem_range.1 hx)), foldP_none _ (fun x hx => hn x (List.mem_range.1 hx))]
    have h1 := hI p p1 p2 c
    have h2 := (hv p p1 p2 hn).1
    unfold pgZ
    rw [if_pos h1.1, if_pos h2]
    exact h1.2
theorem iv_of {db X : List UInt8} {M : Nat} {N E : Nat → Nat} (hM : 1 ≤ M) (hI : Intact db (cntL db M E) (tlM N M) X) (hv : Iv db M N E) : Iv X M N E := fun p p1 p2 hn => by
  rw [cntL_pos (db' := db) hM] at p2
  exact ⟨(hI p p1 p2 (fun c => by obtain ⟨x, hx, e⟩ := mem_tlM.1 c; exact hn x hx e)).1, (hv p p1 p2 hn).2⟩
/-- The steps that write pages, cut and sync. -/
theorem hom_split {K count n : Nat} {T : Nat → Nat} {L : Nat → List UInt8} : homS K count n T L = catS (catS (hdSt (sealB K 0 0 0)) 2 (dbS count n T L)) (2 + (n + 2)) (hdSt (sealB 0 0 0 0)) := by
  funext k
  unfold homS
  by_cases c1 : k < 2 + n
  · rw [catS_lt c1, catS_lt (show k < 2 + (n + 2) by omega)]
    by_cases c2 : k < 2
    · rw [catS_lt c2, catS_lt c2]
    · obtain ⟨j, rfl⟩ : ∃ j, k = 2 + j := ⟨k - 2, by omega⟩
      rw [catS_ge, catS_ge]
      unfold dbS
      rw [catS_lt (by omega)]
  · obtain ⟨j, rfl⟩ : ∃ j, k = 2 + n + j := ⟨k - (2 + n), by omega⟩
    rw [catS_ge]
    match j with
    | 0 =>
      rw [catS_lt (by omega), show 2 + n + 0 = 2 + (n + 0) by omega, catS_ge]
      unfold dbS
      rw [catS_ge]; rfl
    | 1 =>
      rw [catS_lt (by omega), show 2 + n + 1 = 2 + (n + 1) by omega, catS_ge]
      unfold dbS
      rw [catS_ge]; rfl
    | j + 2 =>
      rw [show 2 + n + (j + 2) = 2 + (n + 2) + j by omega, catS_ge]
      match j with
      | 0 => rfl
      | j + 1 => rfl
/-- What is left in the database. -/
structure HomD (db db' : List UInt8) (count n : Nat) (T : Nat → Nat) (L : Nat → List UInt8) : Prop where
  len : db'.length = 256 * count
  pgs : ∀ p, 1 ≤ p → p ≤ count → (∃ j, j < n ∧ T j = p ∧ pgL db' p = L j) ∨ ((∀ j, j < n → T j ≠ p) ∧ (256 * p ≤ db.length → pgL db' p = pgL db p))
theorem db_view (f : Vw) {count n : Nat} {T : Nat → Nat} {L : Nat → List UInt8} (hL : ∀ j, j < n → (L j).length = 256) (hT : ∀ j, j < n → 1 ≤ T j) :
    HomD (f nmD) (vw f (dbS count n T L) (n + 2) nmD) count n T L := by
  obtain ⟨h1, h2, h3, h4, h5⟩ := pgs_view f T L n hL hT n (Nat.le_refl _)
  have e1 : vw f (dbS count n T L) (n + 2) nmD = rsz (vw f (pgS T L) n nmD) (256 * count) := by
    unfold dbS
    rw [vw_add]
    show Vw.set (vw f (pgS T L) n) nmD (rsz (vw f (pgS T L) n nmD) (256 * count)) nmD = _
    exact set_same _ _ _
  rw [e1]
  refine ⟨length_rsz _ _, fun p p1 p2 => ?_⟩
  have ht : 256 * p ≤ (vw f (pgS T L) n nmD).length → pgL (rsz (vw f (pgS T L) n nmD) (256 * count)) p = pgL (vw f (pgS T L) n nmD) p := fun h => (pg_rsz h (by omega) p1).2
  rcases h4 p p1 with ⟨j, g1, g2, g3⟩ | ⟨g1, g2⟩
  · exact .inl ⟨j, g1, g2, by rw [ht (by have := h2 j g1; rw [g2] at this; exact this)]; exact g3⟩
  · exact .inr ⟨g1, fun h => by rw [ht (by omega)]; exact g2 h⟩
/-- What a crash may leave of what brings pages home. -/
def GoodH (fin : Prop) (db new : List UInt8) (cl K : Nat) (N E : Nat → Nat) (P : Nat → List UInt8) (XD XJ : List UInt8) : Prop := (Lgx XJ K N E P ∧ Intact db cl (tlM N K) XD) ∨ (fin ∧ Hk XJ 0 ∧ XD = new)
theorem db_put {count n : Nat} {T : Nat → Nat} {L : Nat → List UInt8} (hL : ∀ j, j < n → (L j).length = 256) : PutsOk (dbS count n T L) (n + 2) := fun k hk nm a d e => by
  unfold dbS catS at e
  split at e
  · cases e; rw [bstr_size, hL k (by assumption)]; omega
  · generalize k - n = j at e
    match j, e with
    | 0, e => cases e
    | j + 1, e => cases e
/-- All steps up to the sync of the database, wherever it crashes. -/
theorem home_run {fin : Prop} {db new l : List UInt8} {cl K M count n : Nat} {N E : Nat → Nat} {P : Nat → List UInt8} {T : Nat → Nat} {L : Nat → List UInt8} (hL : ∀ j, j < n → (L j).length = 256) (hT : ∀ j, j < n → 1 ≤ T j ∧ T j ∈ tlM N K) (hcn : ∀ p, 1 ≤ p → p ≤ cl → p ∉ tlM N K → p ≤ count) {s : PS} (hcs : s.cs = []) (hD : s.K nmD = db) (hJ : s.K nmJ = l) (hl : Lgx l K N E P) (hI : Intact db cl (tlM N K) db) :
    Run (GoodH fin db new cl K N E P) s (homS K count n T L) (2 + (n + 2)) ∧ (pst s (homS K count n T L) (2 + (n + 2))).cs = [] ∧ (pst s (homS K count n T L) (2 + (n + 2))).K nmJ = wseen l 0 (sealB K 0 0 0) ∧ HomD db ((pst s (homS K count n T L) (2 + (n + 2))).K nmD) count n T L ∧ Intact db cl (tlM N K) ((pst s (homS K count n T L) (2 + (n + 2))).K nmD) ∧
    (wseen l 0 (sealB K 0 0 0)).take 64 = sealB K 0 0 0 ∧ Fr0 (wseen l 0 (sealB K 0 0 0)) K N E P := by
  obtain ⟨r1, p1, t1, f1, l1⟩ := renew_run (Q := GoodH fin db new cl K N E P) hcs hJ hl (fun X hX => .inl ⟨hX, by rw [hD]; exact hI⟩)
  obtain ⟨s1, hs1⟩ : ∃ s1, s1 = pst s (hdSt (sealB K 0 0 0)) 2 := ⟨_, rfl⟩
  rw [← hs1] at p1
  have hK1J : s1.K nmJ = wseen l 0 (sealB K 0 0 0) := by rw [p1]; exact set_same s.K nmJ (wseen l 0 (sealB K 0 0 0))
  have hK1D : s1.K nmD = db := by rw [p1]; exact (set_other s.K neDJ (wseen l 0 (sealB K 0 0 0))).trans hD
  have hc1 : s1.cs = [] := by rw [p1]
  have hl1 : Lgx (wseen l 0 (sealB K 0 0 0)) K N E P := ⟨.inr (HS.exact t1), f1⟩
  obtain ⟨r2, c2, j2, i2⟩ := db_run (Q := GoodH fin db new cl K N E P) (db := db) (old := cl) (cnt := count) (n := n) (N := T) (L := L) (tl := tlM N K) hL (fun j hj => ⟨(hT j hj).1, .inl (hT j hj).2⟩) hcn hc1 hK1D hK1J hI (fun Y hY => .inl ⟨hl1, hY⟩)
  have hse := see_pst s1 (dbS count n T L) (n + 2) (db_put hL) (n + 2) (Nat.le_refl _)
  have hs1D : s1.see nmD = db := by show keepF nmD (s1.K nmD) s1.cs = db; rw [hc1, hK1D]; rfl
  have hv := db_view s1.see (count := count) hL (fun j hj => (hT j hj).1)
  rw [hs1D] at hv
  have hpst : pst s (homS K count n T L) (2 + (n + 2)) = pst s1 (dbS count n T L) (n + 2) := by
    rw [hom_split, pst_le (Nat.le_refl _), pst_add, ← hs1]
  have hKD : (pst s1 (dbS count n T L) (n + 2)).K nmD = vw s1.see (dbS count n T L) (n + 2) nmD := by
    rw [← congrFun hse nmD]
    show _ = keepF nmD _ _
    rw [c2]; rfl
  rw [hpst]
  refine ⟨?_, c2, j2, by rw [hKD]; exact hv, i2, t1, f1⟩
  intro k hk
  have := Run.cat r1 (S' := dbS count n T L) (m := n + 2) (by rw [← hs1]; exact r2) k hk
  rw [hom_split, catS_lt hk, pst_le (by omega)]
  exact this
/-- And on to the head that empties the log. -/
theorem home_end {fin : Prop} (hfin : fin) {db new l : List UInt8} {cl K count n : Nat} {N E : Nat → Nat} {P : Nat → List UInt8} {T : Nat → Nat} {L : Nat → List UInt8} (hL : ∀ j, j < n → (L j).length = 256) (hT : ∀ j, j < n → 1 ≤ T j ∧ T j ∈ tlM N K) (hcn : ∀ p, 1 ≤ p → p ≤ cl → p ∉ tlM N K → p ≤ count) {s : PS} (hcs : s.cs = []) (hD : s.K nmD = db) (hJ : s.K nmJ = l) (hl : Lgx l K N E P) (hI : Intact db cl (tlM N K) db) (hnew : new = (pst s (homS K count n T L) (2 + (n + 2))).K nmD) :
    Run (GoodH fin db new cl K N E P) s (homS K count n T L) (2 + (n + 2) + 2) ∧ (pst s (homS K count n T L) (2 + (n + 2) + 2)).cs = [] ∧ Hk ((pst s (homS K count n T L) (2 + (n + 2) + 2)).K nmJ) 0 ∧ (pst s (homS K count n T L) (2 + (n + 2) + 2)).K nmD = new := by
  obtain ⟨r1, c1, j1, d1, i1, t1, f1⟩ := home_run (fin := fin) (new := new) (M := K) hL hT hcn hcs hD hJ hl hI
  obtain ⟨s1, hs1⟩ : ∃ s1, s1 = pst s (homS K count n T L) (2 + (n + 2)) := ⟨_, rfl⟩
  rw [← hs1] at c1 j1 d1 i1 hnew
  have hlen : 64 ≤ (wseen l 0 (sealB K 0 0 0)).length := by rw [length_wseen, sealB_length]; omega
  obtain ⟨r2, p2⟩ := head_run (Q := GoodH fin db new cl K N E P) (s := s1) (q := sealB 0 0 0 0) c1 j1 hlen (sealB_length _ _ _ _) (fun k => by
    rcases HS.new (a' := 0) (b' := 0) (c' := 0) (d' := 0) t1 k with h | h
    · exact .inl ⟨⟨.inr h, f1.hd (sealB_length _ _ _ _) k⟩, i1⟩
    · exact .inr ⟨hfin, .inr h, hnew.symm⟩)
  have hS : ∀ j, homS K count n T L (2 + (n + 2) + j) = hdSt (sealB 0 0 0 0) j := fun j => by rw [hom_split, catS_ge]
  have hp : ∀ j, pst s (homS K count n T L) (2 + (n + 2) + j) = pst s1 (hdSt (sealB 0 0 0 0)) j := fun j => by
    induction j with
    | zero => exact hs1.symm
    | succ j ih =>
      show (homS K count n T L (2 + (n + 2) + j)).dn (pst s (homS K count n T L) (2 + (n + 2) + j)) = (hdSt (sealB 0 0 0 0) j).dn (pst s1 (hdSt (sealB 0 0 0 0)) j)
      rw [hS, ih]
  refine ⟨fun k hk => ?_, by rw [hp, p2], ?_, ?_⟩
  · by_cases c : k < 2 + (n + 2)
    · exact r1 k c
    · obtain ⟨j, rfl⟩ : ∃ j, k = 2 + (n + 2) + j := ⟨k - (2 + (n + 2)), by omega⟩
      rw [hS, hp]
      exact r2 j (by omega)
  · rw [hp, p2]
    show Hk (s1.K.set nmJ (wseen (wseen l 0 (sealB K 0 0 0)) 0 (sealB 0 0 0 0)) nmJ) 0
    rw [set_same]
    exact .inr (HS.exact (take_wseen0 _ _ (sealB_length _ _ _ _)))
  · rw [hp, p2]
    exact (set_other s1.K neDJ (wseen (wseen l 0 (sealB K 0 0 0)) 0 (sealB 0 0 0 0))).trans hnew.symm
theorem hom_ok {r : Int} (hr : 180000 ≤ r) {K count n : Nat} {T : Nat → Nat} {L : Nat → List UInt8} (hL : ∀ j, j < n → (L j).length = 256) (hT : ∀ j, j < n → 1 ≤ T j ∧ T j ≤ 200) (hc : count ≤ 200) (f : Vw) (hf : ∀ nm, (f nm).length ≤ 60000) : ∀ m, m ≤ 2 + (n + 2) + 2 → (∀ nm, (vw f (homS K count n T L) m nm).length ≤ 60000) ∧ ∀ k, k < m → (homS K count n T L k).okr r (vw f (homS K count n T L) k)
  | 0, _ => ⟨hf, fun k hk => by omega⟩
  | m + 1, hm => by
    obtain ⟨h1, h2⟩ := hom_ok hr hL hT hc f hf m (by omega)
    have hk : (homS K count n T L m).okr r (vw f (homS K count n T L) m) := by
      generalize vw f (homS K count n T L) m = V at h1
      by_cases c1 : m < 2
      · rw [show homS K count n T L m = hdSt (sealB K 0 0 0) m by rw [hom_split, catS_lt (by omega), catS_lt c1]]
        match m with
        | 0 => refine ⟨.inr rfl, ?_, ?_, ?_⟩ <;> rw [bstr_size, sealB_length] <;> omega
        | _ + 1 => trivial
      · obtain ⟨j, rfl⟩ : ∃ j, m = 2 + j := ⟨m - 2, by omega⟩
        by_cases c2 : j < n
        · rw [show homS K count n T L (2 + j) = pgS T L j by unfold homS; rw [catS_lt (by omega), catS_ge]]
          have := hT j c2
          refine ⟨.inl rfl, ?_, ?_, ?_⟩ <;> rw [bstr_size, hL j c2] <;> omega
        · obtain ⟨m, rfl⟩ : ∃ m, j = n + m := ⟨j - n, by omega⟩
          have e : homS K count n T L (2 + (n + m)) = tlH count m := by unfold homS; rw [show 2 + (n + m) = 2 + n + m by omega, catS_ge]
          rw [e]
          match m with
          | 0 =>
            refine ⟨.inl rfl, by omega, .inr ?_⟩
            have := h1 nmD
            have := h1 nmJ
            unfold Vw.tot
            omega
          | 1 => trivial
          | 2 => refine ⟨.inr rfl, ?_, ?_, ?_⟩ <;> rw [bstr_size, sealB_length] <;> omega
          | _ + 3 => trivial
    have hall : ∀ k, k < m + 1 → (homS K count n T L k).okr r (vw f (homS K count n T L) k) := fun k hk2 => by
      by_cases c : k = m
      · rw [c]; exact hk
      · exact h2 k (by omega)
    exact ⟨vw_len2 hall hf (m + 1) (Nat.le_refl _), hall⟩
end Go.Proofs.YteocmhbllckpjaaGreat

namespace Go.Proofs.YteocmhbllckpjaaGreat
open Go.ChangeShapes Go.WideShapes Go.ChangeAt Go.RowKit
open Go.ChangeMaps (setBlock)
set_option linter.unusedVariables false

/-- What a checkpoint up to a mark leaves. -/
structure Chk (db db' : List UInt8) (cl K M count : Nat) (N : Nat → Nat) (P : Nat → List UInt8) : Prop where
  ex : ∃ n T, Hom N M count n T ∧ HomD db db' count n T (homP N P M T)
  intact : Intact db cl (tlM N K) db'
/-- A checkpoint is made. -/
def CpOk (w : World) (D : DS) (base b : Nat) (r : Int) (i : Nat) (w' : World) (cl K M count : Nat) (N E : Nat → Nat) (P : Nat → List UInt8) : Prop := ∃ D' who' i', RM w D w' base b D' who' ∧ JI r D' i' ∧ i' ≤ i + 300 ∧ D'.chs = [] ∧ ((M ≠ K ∧ Lgx (seenOf D' nmJ) K N E P) ∨ (M = K ∧ Hk (seenOf D' nmJ) 0)) ∧ Chk (seenOf D nmD) (seenOf D' nmD) cl K M count N P ∧ (D.fuse = 0 → D'.fuse = 0)
def CpCr (w : World) (D : DS) (base b : Nat) (r : Int) (i : Nat) (w' : World) (cl K M count : Nat) (N E : Nat → Nat) (P : Nat → List UInt8) : Prop := D.fuse ≠ 0 ∧ ∃ D' who' i' new, RM w D w' base b D' who' ∧ JX r D' i' ∧ i' ≤ i + 300 ∧ D'.down = true ∧ Safe (GoodH (M = K) (seenOf D nmD) new cl K N E P) (psOf D') ∧ (M = K → Chk (seenOf D nmD) new cl K M count N P)
theorem homP_len {N E : Nat → Nat} {P : Nat → List UInt8} (ha : Fra N E P) (M : Nat) (T : Nat → Nat) (j : Nat) : (homP N P M T j).length = 256 := foldP_length ha.pg z256_length _

set_option maxHeartbeats 1000000 in
/-- The steps of a checkpoint, made on a disk. -/
theorem home_do (w V : World) (base b : Nat) (D : DS) (who : Nat → Nat) (R : Rep w base b D who) (hV : w.grownBy V none) {r : Int} (hr : 180000 ≤ r) {i : Nat} (h : JI r D i) (hch : D.chs = []) {K : Nat} {N E : Nat → Nat} {P : Nat → List UInt8} (hK : K ≤ 180) (hL : Lgx (seenOf D nmJ) K N E P) (ha : Fra N E P) (M cl count n : Nat) (T : Nat → Nat) (hM : M ≤ K) (hcount : count ≤ 200) (hI : Intact (seenOf D nmD) cl (tlM N K) (seenOf D nmD)) (hcn : ∀ p, 1 ≤ p → p ≤ cl → p ∉ tlM N K → p ≤ count) (hH : Hom N M count n T) (hi : i ≤ 10000) (q : Option Addr) (c' : Nat) (hst : StA V b q (2 + n + (if M = K then 4 else 2)) (homS K count n T (homP N P M T))) :
    Calls Tryz.prog 48 #[.slice q (2 + n + (if M = K then 4 else 2)) c'] V fun e w' => (e = .returned (.int .i64 0) ∧ CpOk w D base b r i w' cl K M count N E P) ∨ (e = .returned (.int .i64 7) ∧ CpCr w D base b r i w' cl K M count N E P) := by
  have hLl : ∀ j, j < n → (homP N P M T j).length = 256 := fun j _ => homP_len ha M T j
  have hT : ∀ j, j < n → 1 ≤ T j ∧ T j ∈ tlM N K := fun j hj => by
    obtain ⟨h1, h2, x, hx, e⟩ := hH.low j hj
    exact ⟨h1, mem_tlM.2 ⟨x, by omega, e⟩⟩
  have hT2 : ∀ j, j < n → 1 ≤ T j ∧ T j ≤ 200 := fun j hj => by have := hH.low j hj; omega
  have hok := (hom_ok (r := r) hr (K := K) (count := count) hLl hT2 hcount (seenOf D) (fun nm => h.len nm) (2 + (n + 2) + 2) (Nat.le_refl _)).2
  have hfew := hH.few
  obtain ⟨m, hm⟩ : ∃ m, m = 2 + n + (if M = K then 4 else 2) := ⟨_, rfl⟩
  have hm2 : m ≤ 2 + (n + 2) + 2 := by rw [hm]; split <;> omega
  rw [← hm] at hst ⊢
  have hokm : ∀ k, k < m → (homS K count n T (homP N P M T) k).okr r (vw (seenOf D) (homS K count n T (homP N P M T)) k) := fun k hk => hok k (by omega)
  have hfit := fits_all2 hr hokm (fun nm => h.len nm)
  have kD := ps_clean h.toJX hch nmD
  have kJ := ps_clean h.toJX hch nmJ
  -- the run
  obtain ⟨new, hnew⟩ : ∃ new, new = (pst (psOf D) (homS K count n T (homP N P M T)) (2 + (n + 2))).K nmD := ⟨_, rfl⟩
  have hrun : Run (GoodH (M = K) (seenOf D nmD) new cl K N E P) (psOf D) (homS K count n T (homP N P M T)) m ∧ (pst (psOf D) (homS K count n T (homP N P M T)) m).cs = [] ∧ (pst (psOf D) (homS K count n T (homP N P M T)) m).K nmD = new ∧ ((M ≠ K ∧ Lgx ((pst (psOf D) (homS K count n T (homP N P M T)) m).K nmJ) K N E P) ∨ (M = K ∧ Hk ((pst (psOf D) (homS K count n T (homP N P M T)) m).K nmJ) 0)) ∧ Chk (seenOf D nmD) new cl K M count N P := by
    have hr1 := home_run (fin := M = K) (new := new) (M := M) (count := count) hLl hT hcn (s := psOf D) hch kD kJ hL hI
    have hck : Chk (seenOf D nmD) new cl K M count N P := ⟨⟨n, T, hH, by rw [hnew]; exact hr1.2.2.2.1⟩, by rw [hnew]; exact hr1.2.2.2.2.1⟩
    by_cases e : M = K
    · have em : m = 2 + (n + 2) + 2 := by rw [hm, if_pos e]; omega
      have hr2 := home_end (fin := M = K) e (count := count) hLl hT hcn (s := psOf D) hch kD kJ hL hI hnew
      rw [em]
      exact ⟨hr2.1, hr2.2.1, hr2.2.2.2, .inr ⟨e, hr2.2.2.1⟩, hck⟩
    · have em : m = 2 + (n + 2) := by rw [hm, if_neg e]; omega
      rw [em]
      refine ⟨hr1.1, hr1.2.1, hnew.symm, .inl ⟨e, ?_⟩, hck⟩
      rw [hr1.2.2.1]
      exact ⟨.inr (HS.exact hr1.2.2.2.2.2.1), hr1.2.2.2.2.2.2⟩
  obtain ⟨g1, g2, g3, g4, g5⟩ := hrun
  have h0 := h.fuse.1
  by_cases f1 : D.fuse = 0 ∨ ((m : Nat) : Int) < D.fuse
  · refine (do_ok2 V base b D who (R.keep hV) h q m c' _ hst (by omega) hfit hokm f1).mono ?_
    rintro e w' ⟨rfl, D', who', hd⟩
    have hc2 : D'.chs = [] := by
      have := congrArg PS.cs hd.ps
      rw [g2] at this
      exact this
    have hk : ∀ nm, seenOf D' nm = (psOf D').K nm := fun nm => (ps_clean hd.ji.toJX hc2 nm).symm
    refine .inl ⟨rfl, D', who', _, ((RM.start R).grown hV).trans hd.rm, hd.ji, by omega, hc2, ?_, ?_, fun hz => by rw [hd.fuse, if_pos hz]⟩
    · rw [hk, hd.ps]; exact g4
    · rw [hk, hd.ps, g3]; exact g5
  · refine (do_cr2 V base b D who (R.keep hV) h q m c' _ hst (by omega) hfit hokm f1 g1).mono ?_
    rintro e w' ⟨rfl, D', who', hd⟩
    exact .inr ⟨rfl, by omega, D', who', _, new, ((RM.start R).grown hV).trans hd.rm, hd.jx, by omega, hd.down, hd.safe, fun _ => g5⟩

/-- The steps of a checkpoint, as a row in memory. -/
def HomX (N : Nat → Nat) (P : Nat → List UInt8) (K M count b : Nat) (n0 : Nat) (q : Option Addr) (w' : World) : Prop := ∃ n T, n0 = 2 + n + (if M = K then 4 else 2) ∧ Hom N M count n T ∧ StA w' b q (2 + n + (if M = K then 4 else 2)) (homS K count n T (homP N P M T))
/-- How a checkpoint ends. -/
def CpEnd (w : World) (D : DS) (base b : Nat) (r : Int) (i : Nat) (cl K M count : Nat) (N E : Nat → Nat) (P : Nat → List UInt8) (x : Int) (w' : World) : Prop := (x = 0 ∧ CpOk w D base b r i w' cl K M count N E P) ∨ (x = 7 ∧ CpCr w D base b r i w' cl K M count N E P)

set_option maxHeartbeats 1000000 in
set_option maxRecDepth 20000 in
theorem checkpoint_x (w : World) (base b : Nat) (D : DS) (who : Nat → Nat) (R : Rep w base b D who) {r : Int} (hr : 180000 ≤ r) {i : Nat} (h : JI r D i) (hch : D.chs = []) {K : Nat} {N E : Nat → Nat} {P : Nat → List UInt8} (hK : K ≤ 180) (hL : Lgx (seenOf D nmJ) K N E P) (ha : Fra N E P) (hend : K = 0 ∨ E (K - 1) ≠ 0) (M : Nat) (hM : IsM K E M) (hM1 : 1 ≤ M) (cl count : Nat) (hcl : cl = cntL (seenOf D nmD) K E) (hc : count = cntL (seenOf D nmD) M E) (hcount : count ≤ 200) (hiv : Iv (seenOf D nmD) K N E) (hi : i ≤ 10000) :
    Calls Tryz.prog 22 #[.pointer (some ⟨b, 0, none⟩), .int .i64 (M : Int)] w fun e w' => ∃ x : Int, e = .returned (.int .i64 x) ∧ CpEnd w D base b r i cl K M count N E P x w' := by
  have hLg := hL.lgf hK ha hend
  have hI : Intact (seenOf D nmD) cl (tlM N K) (seenOf D nmD) := by rw [hcl]; exact iv_intact hiv
  have hcn : ∀ p, 1 ≤ p → p ≤ cl → p ∉ tlM N K → p ≤ count := fun p p1 p2 p3 => by
    rcases hM with e | ⟨hle, he⟩
    · omega
    · have := (hiv p p1 (by rw [← hcl]; exact p2) (not_tlM p3)).2 (M - 1) (by omega) he
      rw [hc]
      unfold cntL
      rw [if_neg (by omega)]
      exact this
  have HOp : Hid (∀ V, w.grownBy V none → Calls Tryz.prog 42 #[.pointer (some ⟨b, 0, none⟩)] V fun e w' => e = .returned (.tuple #[.agg #[.pointer (some ⟨b, 0, none⟩), .string (bstr (txt (seenOf D nmJ) K)), .int .i64 (K : Int)], .int .i64 0]) ∧ V.grownBy w' none) := fun V hV => open_w V base b D who (R.keep hV) h hLg
  have HCt : Hid (∀ V, w.grownBy V none → Calls Tryz.prog 44 #[.agg #[.pointer (some ⟨b, 0, none⟩), .string (bstr (txt (seenOf D nmJ) K)), .int .i64 (K : Int)], .int .i64 (M : Int)] V fun x w' => x = .returned (.tuple #[.int .i64 (count : Int), .bool true]) ∧ V.grownBy w' none) := fun V hV => by
    rw [hc]; exact count_mark V base b D who (R.keep hV) h hLg M hM
  have HBr : Hid (∀ V, Calls Tryz.prog 50 #[.agg #[.pointer (some ⟨b, 0, none⟩), .string (bstr (txt (seenOf D nmJ) K)), .int .i64 (K : Int)], .int .i64 (M : Int), .int .i64 (count : Int)] V fun e w' => (∃ q n0, (∃ c', e = .returned (.slice q n0 c')) ∧ HomX N P K M count b n0 q w') ∧ V.grownBy w' none) := fun V => by
    refine (bringHome_w V b _ K hK N E P hLg.frs ha M hM.le count (by omega)).mono ?_
    rintro e w' ⟨⟨q, c', n, T, rfl, hH, hst⟩, hg⟩
    exact ⟨⟨q, _, ⟨c', rfl⟩, n, T, rfl, hH, hst⟩, hg⟩
  have HDo : Hid (∀ V q n0 c', w.grownBy V none → HomX N P K M count b n0 q V → Calls Tryz.prog 48 #[.slice q n0 c'] V fun e w' => ∃ x : Int, e = .returned (.int .i64 x) ∧ CpEnd w D base b r i cl K M count N E P x w') := fun V q n0 c' hV ⟨n, T, e1, hH, hst⟩ => by
    rw [e1]
    refine (home_do w V base b D who R hV hr h hch hK hL ha M cl count n T hM.le hcount hI hcn hH hi q c' hst).mono ?_
    rintro e w' (⟨rfl, hx⟩ | ⟨rfl, hx⟩)
    · exact ⟨0, rfl, .inl ⟨rfl, hx⟩⟩
    · exact ⟨7, rfl, .inr ⟨rfl, hx⟩⟩
  have HI93 := hideJ info93
  have HZ := hideJ (fun V => alloc_new V (.cells #[.pointer none, .string ⟨#[]⟩, .int .i64 0] 93))
  have l1 : ¬ (M : Int) = 0 := by omega
  obtain ⟨T0, hT0⟩ : ∃ T0, T0 = bstr (txt (seenOf D nmJ) K) := ⟨_, rfl⟩
  rw [← hT0] at HOp HCt HBr
  generalize CpEnd w D base b r i cl K M count N E P = CE at HDo ⊢
  generalize HomX N P K M count b = HX at HDo HBr
  clear R h hL ha hend hM hM1 hcl hc hcount hiv hi hLg hI hcn hr hch hK hT0
  go_enter Tryz.func22, Tryz.ntmps22
  go_wp2_with (first
    | (go_at_call 42; (with_reducible refine Calls.mono (HOp.out _ (grown_refl _)) ?_); rintro e w1 ⟨rfl, hg⟩; have HG1 := hideJ hg; clear hg)
    | ((with_reducible refine at93S ?_); refine wp_storeB (c := #[.pointer (some ⟨b, 0, none⟩), .string T0, .int .i64 (K : Int)]) HI93.out (by rfl) three_one (HZ.out _) _ _ (by rfl) (by rfl) (by rfl) (by rfl) ?_; intro W2 hb2 ho2; have HB2 := hideJ hb2; have HG2 := hideJ (grown_only (grown_trans' HG1.out (World.grownBy_alloc _ _ _)) ho2 HG1.out.size); clear hb2 ho2)
    | ((with_reducible refine at93L ?_); refine wp_loadB (c := #[.pointer (some ⟨b, 0, none⟩), .string T0, .int .i64 (K : Int)]) HI93.out u93 HB2.out _ (by rfl) (by rfl) (by rfl) ?_)
    | (go_at_call 44; (with_reducible refine Calls.mono (HCt.out _ HG2.out) ?_); rintro e w3 ⟨rfl, hg⟩; have HG3 := hideJ (grown_trans' HG2.out hg); have HB3 := hideJ (Blk.grown HB2.out hg); clear hg)
    | ((with_reducible refine at93L ?_); refine wp_loadB (c := #[.pointer (some ⟨b, 0, none⟩), .string T0, .int .i64 (K : Int)]) HI93.out u93 HB3.out _ (by rfl) (by rfl) (by rfl) ?_)
    | (go_at_call 50; (with_reducible refine Calls.mono (HBr.out _) ?_); rintro e w4 ⟨⟨q4, n4, ⟨c4, rfl⟩, hx4⟩, hg⟩; have HX4 := hideJ hx4; have HG4 := hideJ (grown_trans' HG3.out hg); clear hx4 hg)
    | (go_at_call 48; (with_reducible refine Calls.mono (HDo.out _ _ _ _ HG4.out HX4.out) ?_); rintro e w5 ⟨x5, rfl, hx5⟩; have HX5 := hideJ hx5; clear hx5))
  go_ret
  exact ⟨x5, rfl, HX5.out⟩

set_option maxHeartbeats 2000000 in
theorem checkpoint_zero (w : World) (base b : Nat) (D : DS) (who : Nat → Nat) (R : Rep w base b D who) {r : Int} {i : Nat} (h : JI r D i) {K : Nat} {N E : Nat → Nat} {P : Nat → List UInt8} (hL : Lgf (seenOf D nmJ) K N E P) :
    Calls Tryz.prog 22 #[.pointer (some ⟨b, 0, none⟩), .int .i64 0] w fun e w' => e = .returned (.int .i64 0) ∧ w.grownBy w' none := by
  have HOp : Hid (∀ V, w.grownBy V none → Calls Tryz.prog 42 #[.pointer (some ⟨b, 0, none⟩)] V fun e w' => e = .returned (.tuple #[.agg #[.pointer (some ⟨b, 0, none⟩), .string (bstr (txt (seenOf D nmJ) K)), .int .i64 (K : Int)], .int .i64 0]) ∧ V.grownBy w' none) := fun V hV => open_w V base b D who (R.keep hV) h hL
  have HCt : Hid (∀ V, w.grownBy V none → Calls Tryz.prog 44 #[.agg #[.pointer (some ⟨b, 0, none⟩), .string (bstr (txt (seenOf D nmJ) K)), .int .i64 (K : Int)], .int .i64 0] V fun x w' => x = .returned (.tuple #[.int .i64 (cntL (seenOf D nmD) 0 E : Nat), .bool true]) ∧ V.grownBy w' none) := fun V hV => count_mark V base b D who (R.keep hV) h hL 0 (.inl rfl)
  have HI93 := hideJ info93
  have HZ := hideJ (fun V => alloc_new V (.cells #[.pointer none, .string ⟨#[]⟩, .int .i64 0] 93))
  generalize bstr (txt (seenOf D nmJ) K) = T0 at HOp HCt
  generalize ((cntL (seenOf D nmD) 0 E : Nat) : Int) = C at HCt
  clear R h hL
  go_enter Tryz.func22, Tryz.ntmps22
  go_wp2_with (first
    | (go_at_call 42; (with_reducible refine Calls.mono (HOp.out _ (grown_refl _)) ?_); rintro e w1 ⟨rfl, hg⟩; have HG1 := hideJ hg; clear hg)
    | ((with_reducible refine at93S ?_); refine wp_storeB (c := #[.pointer (some ⟨b, 0, none⟩), .string T0, .int .i64 (K : Int)]) HI93.out (by rfl) three_one (HZ.out _) _ _ (by rfl) (by rfl) (by rfl) (by rfl) ?_; intro W2 hb2 ho2; have HB2 := hideJ hb2; have HG2 := hideJ (grown_only (grown_trans' HG1.out (World.grownBy_alloc _ _ _)) ho2 HG1.out.size); clear hb2 ho2)
    | ((with_reducible refine at93L ?_); refine wp_loadB (c := #[.pointer (some ⟨b, 0, none⟩), .string T0, .int .i64 (K : Int)]) HI93.out u93 HB2.out _ (by rfl) (by rfl) (by rfl) ?_)
    | (go_at_call 44; (with_reducible refine Calls.mono (HCt.out _ HG2.out) ?_); rintro e w3 ⟨rfl, hg⟩; have HG3 := hideJ (grown_trans' HG2.out hg); clear hg))
  go_ret
  exact ⟨rfl, HG3.out⟩
end Go.Proofs.YteocmhbllckpjaaGreat

namespace Go.Proofs.YteocmhbllckpjaaGreat
open Go.ChangeShapes Go.WideShapes Go.ChangeAt Go.RowKit
open Go.ChangeMaps (setBlock)
set_option linter.unusedVariables false

theorem below_cell {w V : World} (hb : Below w.heap.size w V) {a : Addr} {v : Value} (h : w.cell? a = some v) : V.cell? a = some v := by
  rw [World.cell?_of_block (w := w) (hb.block a.block (World.block_lt_of_cell? w a h))]; exact h
theorem surv_len {r : Int} {D : DS} {i : Nat} (h : JX r D i) {nm : ByteArray} {l X : List UInt8} (hl : l.length ≤ 60000) (hs : Surv nm l D.chs X) : X.length ≤ 60000 :=
  Surv.inv (P := fun Y => Y.length ≤ 60000) (fun c hc _ l k hl => by
    show (takeL l c k).length ≤ 60000
    have hw := (h.chw c hc).2
    unfold takeL
    split
    · exact hl
    · split
      · rw [length_rsz]; omega
      · rw [length_putL]; exact hl) hl hs
theorem look_uniq {fs : List FL} (hU : Uniq fs) {f : FL} (hf : f ∈ fs) : look fs f.name = some f := hU f hf
theorem restc_seen {r : Int} {D D' : DS} {i : Nat} {ch : Nat → Int} (h : JX r D i) (hR : Restc D D' ch) (nm : ByteArray) : seenOf D' nm = keptJ D.chs ch nm (keptOf D nm) D.chs.length := by
  cases hl : look D'.fs nm with
  | some f =>
    obtain ⟨hf, hnm⟩ := look_some hl
    obtain ⟨e1, _, f0, h0, _, e2, e3⟩ := hR.each f hf
    have hk : keptOf D nm = f0.kept := by
      unfold keptOf
      rw [hnm, ← e2, look_uniq h.uniq h0]
      rfl
    unfold seenOf
    rw [hl]
    show f.seen = _
    rw [e1, e3, hk, hnm, ← e2]
  | none =>
    have hs : seenOf D' nm = [] := by unfold seenOf; rw [hl]; rfl
    rw [hs]
    cases hl0 : look D.fs nm with
    | some f0 =>
      obtain ⟨h0, hn0⟩ := look_some hl0
      have hk : keptOf D nm = f0.kept := by unfold keptOf; rw [hl0]; rfl
      rw [hk, hn0]
      by_cases e : keptJ D.chs ch f0.name f0.kept D.chs.length = []
      · exact e.symm
      · exfalso
        obtain ⟨f, hf, _, e2⟩ := hR.all_ f0 h0 e
        have := look_uniq hR.uniq hf
        rw [e2, ← hn0, hl] at this
        cases this
    | none =>
      have hk : keptOf D nm = [] := by unfold keptOf; rw [hl0]; rfl
      rw [hk]
      exact (Surv.other (fun c hc => by
        cases hb : isN nm c with
        | false => rfl
        | true =>
          obtain ⟨f, hf⟩ := h.has c hc
          rw [isN_eq hb, hl0] at hf
          cases hf) (surv_kept (nm := nm) (ch := ch) (l := []) D.chs.length 0 (by omega))).symm
theorem restc_ji {r : Int} {D D' : DS} {i : Nat} {ch : Nat → Int} {w : World} {base b : Nat} {who : Nat → Nat} (h : JX r D i) (hR : Restc D D' ch) (hp : Rep w base b D' who) : JI r D' (i + 1) := by
  refine ⟨⟨hR.uniq, hp.nodup, hp.born, fun f hf => ?_, fun f hf => ?_, fun c hc => ?_, fun c hc => ?_, ?_, ?_, ?_, ?_, ?_, fun nm => ?_⟩, hR.down⟩
  · obtain ⟨_, _, f0, h0, _, e2, _⟩ := hR.each f hf
    rw [← e2]; exact h.two f0 h0
  · obtain ⟨e1, _, f0, h0, _, e2, e3⟩ := hR.each f hf
    have : f.kept.length ≤ 60000 := by
      rw [e3]
      exact surv_len h (h.lens f0 h0).2 (surv_kept (nm := f0.name) (ch := ch) (l := f0.kept) D.chs.length 0 (by omega))
    exact ⟨by rw [e1]; exact this, this⟩
  · rw [hR.chs] at hc; cases hc
  · rw [hR.chs] at hc; cases hc
  · rw [hR.chs]; simp
  · rw [hR.room]; exact h.room
  · rw [hR.fuse]; exact ⟨Int.le_refl _, by decide⟩
  · rw [hR.steps]; omega
  · rw [hR.starts]; have := h.starts; omega
  · rw [hR.chs]
    show keptOf D' nm = seenOf D' nm
    unfold keptOf seenOf
    cases hl : look D'.fs nm with
    | none => rfl
    | some f => exact (hR.each f (look_some hl).1).1.symm
/-- Rows of pages that are there stay. -/
def Rows2 (V V' : World) : Prop := (∀ q m M, PgR V q m M → PgR V' q m M) ∧ (∀ q m T P, PgA V q m T P → PgA V' q m T P)
theorem Rows2.refl (V : World) : Rows2 V V := ⟨fun _ _ _ h => h, fun _ _ _ _ h => h⟩
theorem Rows2.trans {A B C : World} (h : Rows2 A B) (k : Rows2 B C) : Rows2 A C := ⟨fun q m M x => k.1 q m M (h.1 q m M x), fun q m T P x => k.2 q m T P (h.2 q m T P x)⟩
theorem Rows2.grown {V V' : World} (h : V.grownBy V' none) : Rows2 V V' := ⟨fun _ _ _ x => x.grown h, fun _ _ _ _ x => x.grown h⟩
theorem Rows2.moved {V V' : World} {base b : Nat} {D D' : DS} {who who' : Nat → Nat} (R : Rep V base b D who) (h : RM V D V' base b D' who') : Rows2 V V' := ⟨fun _ _ _ x => x.moved R h, fun _ _ _ _ x => x.moved R h⟩
/-- Choices that were handed in. -/
def CoA (w : World) (p : Option Addr) (xs : List Int) : Prop := ∀ j x, xs[j]? = some x → x ≤ 9223372036854775807 ∧ ∃ g o, p = some ⟨g, o, none⟩ ∧ w.cell? ⟨g, o + j, none⟩ = some (.int .i64 x)
theorem restart_x (w V : World) {r : Int} {D : DS} {i : Nat} {Q : List UInt8 → List UInt8 → Prop} (h : Dw w V r D i Q) (hi : i ≤ 20000) (pc : Option Addr) (pcap : Nat) (xs : List Int) (hX : CoA w pc xs) :
    Calls Tryz.prog 26 #[.pointer (some ⟨w.heap.size + 1, 0, none⟩), .slice pc xs.length pcap] V fun e w' => e = .returned (.int .i64 0) ∧ ∃ D', Cl w w' r D' (i + 1) ∧ D'.fuse = 0 ∧ Q (seenOf D' nmD) (seenOf D' nmJ) ∧ Rows2 V w' := by
  obtain ⟨who, R⟩ := h.rep
  refine (restart_moves V w.heap.size (w.heap.size + 1) D who R (h.jx.sane hi) h.jx.uniq h.down (by have := h.jx.starts; omega) pc pcap xs (fun j => (xs[j]?).getD 0) (fun _ => rfl) (fun j x hx => ?_)).mono ?_
  · obtain ⟨h1, g, o, e, hc⟩ := hX j x hx
    have hg : g < w.heap.size := World.block_lt_of_cell? w _ hc
    refine ⟨h1, g, o, e, Nat.lt_of_lt_of_le hg h.bel.size, fun hf => ?_, below_cell h.bel hc⟩
    have := (R.foot hf).1
    omega
  · rintro e w' ⟨rfl, D', who', hp, hR, hm⟩
    have hrm : RM V D w' w.heap.size (w.heap.size + 1) D' who' := ⟨hp, hm⟩
    refine ⟨rfl, D', ⟨⟨who', hp⟩, restc_ji h.jx hR hp, h.bel.trans (hm.below R), hR.chs⟩, hR.fuse, ?_, Rows2.moved R hrm⟩
    rw [restc_seen h.jx hR, restc_seen h.jx hR]
    exact h.safe _ _ (surv_kept (chs := D.chs) D.chs.length 0 (Nat.zero_add _)) (surv_kept (chs := D.chs) D.chs.length 0 (Nat.zero_add _))

theorem Cl.good {w V : World} {r : Int} {D : DS} {i : Nat} {Q : List UInt8 → List UInt8 → Prop} (h : Cl w V r D i) (hq : Q (seenOf D nmD) (seenOf D nmJ)) : Safe Q (psOf D) := fun XD XJ hD hJ => by
  have hcs : (psOf D).cs = [] := h.clean
  have d1 : XD = (psOf D).K nmD := Surv.other (fun c hc => by rw [hcs] at hc; cases hc) hD
  have d2 : XJ = (psOf D).K nmJ := Surv.other (fun c hc => by rw [hcs] at hc; cases hc) hJ
  rw [d1, d2, ps_see h.ji.toJX hcs, ps_see h.ji.toJX hcs]; exact hq
theorem down_cl (w V : World) {r : Int} {D : DS} {i : Nat} (h : Cl w V r D i) : Calls Tryz.prog 11 #[.pointer (some ⟨w.heap.size + 1, 0, none⟩)] V fun e w' => e = .returned (.bool false) ∧ V = w' := by
  obtain ⟨who, R⟩ := h.rep
  have := down_any V _ _ D who R
  rw [h.ji.down] at this
  exact this
theorem down_dw (w V : World) {r : Int} {D : DS} {i : Nat} {Q : List UInt8 → List UInt8 → Prop} (h : Dw w V r D i Q) : Calls Tryz.prog 11 #[.pointer (some ⟨w.heap.size + 1, 0, none⟩)] V fun e w' => e = .returned (.bool true) ∧ V = w' := by
  obtain ⟨who, R⟩ := h.rep
  have := down_any V _ _ D who R
  rw [h.down] at this
  exact this
theorem JX.fused {r : Int} {D : DS} {i : Nat} (h : JX r D i) {n : Int} (hn : n ≤ 9223372036854775807) : JX r { D with fuse := max n 0 } i := { h with fuse := by show 0 ≤ max n 0 ∧ max n 0 ≤ 9223372036854775807; omega }
theorem fuse_cl (w V : World) {r : Int} {D : DS} {i : Nat} (h : Cl w V r D i) (n : Int) (hn : n ≤ 9223372036854775807) : Calls Tryz.prog 24 #[.pointer (some ⟨w.heap.size + 1, 0, none⟩), .int .i64 n] V fun e w' => e = .returned (.tuple #[]) ∧ (∃ D', Cl w w' r D' i ∧ D'.fuse = max n 0 ∧ seenOf D' = seenOf D) ∧ Rows2 V w' := by
  obtain ⟨who, R⟩ := h.rep
  refine (crashIn_moves V _ _ D who R n).mono ?_
  rintro e w' ⟨rfl, hm⟩
  exact ⟨rfl, ⟨_, ⟨⟨who, hm.rep⟩, ⟨h.ji.toJX.fused hn, h.ji.down⟩, h.bel.trans (hm.mv.below R), h.clean⟩, rfl, rfl⟩, Rows2.moved R hm⟩
theorem fuse_dw (w V : World) {r : Int} {D : DS} {i : Nat} {Q : List UInt8 → List UInt8 → Prop} (h : Dw w V r D i Q) (n : Int) (hn : n ≤ 9223372036854775807) : Calls Tryz.prog 24 #[.pointer (some ⟨w.heap.size + 1, 0, none⟩), .int .i64 n] V fun e w' => e = .returned (.tuple #[]) ∧ (∃ D', Dw w w' r D' i Q) ∧ Rows2 V w' := by
  obtain ⟨who, R⟩ := h.rep
  refine (crashIn_moves V _ _ D who R n).mono ?_
  rintro e w' ⟨rfl, hm⟩
  exact ⟨rfl, ⟨_, ⟨⟨who, hm.rep⟩, h.jx.fused hn, h.bel.trans (hm.mv.below R), h.down, h.safe⟩⟩, Rows2.moved R hm⟩
theorem aftL_out {nw count n : Nat} {W : Nat → List UInt8} {N : Nat → Nat} {L : Nat → List UInt8} (hN : Rise count n N) {k : Nat} : ∀ m, m ≤ n → (∀ j, j < m → N j ≠ k + 1) → aftL nw W N L m k = padL nw W k
  | 0, _, _ => rfl
  | m + 1, hm, h => by
    show (if k = N m - 1 then L m else aftL nw W N L m k) = _
    have h1 := h m (Nat.lt_succ_self m)
    have h2 := (hN.low m (by omega)).1
    rw [if_neg (by omega)]
    exact aftL_out hN m (by omega) (fun j hj => h j (by omega))
theorem aftL_in {nw count n : Nat} {W : Nat → List UInt8} {N : Nat → Nat} {L : Nat → List UInt8} (hN : Rise count n N) {j : Nat} : ∀ m, m ≤ n → j < m → aftL nw W N L m (N j - 1) = L j
  | 0, _, h => by omega
  | m + 1, hm, h => by
    show (if N j - 1 = N m - 1 then L m else aftL nw W N L m (N j - 1)) = _
    by_cases e : j = m
    · subst e; rw [if_pos rfl]
    · have h1 := hN.up j m (by omega) (by omega)
      have h2 := (hN.low j (by omega)).1
      rw [if_neg (by omega)]
      exact aftL_in hN m (by omega) (by omega)
/-- What a database and its log tell at the last mark, and that commits made them. -/
structure Vz (c : Nat) (L : Nat → List UInt8) (B : Nat) (XD XJ : List UInt8) (K : Nat) (N E : Nat → Nat) (P : Nat → List UInt8) : Prop where
  lg : Lgx XJ K N E P
  few : K ≤ B
  fra : Fra N E P
  end_ : K = 0 ∨ E (K - 1) ≠ 0
  iv : Iv XD K N E
  low : ∀ j, j < K → E j ≤ 16
  cnt : cntL XD K E = c
  pgs : ∀ k, k < c → pgAt XD N P K (k + 1) = L k
def Vx (c : Nat) (L : Nat → List UInt8) (B : Nat) (XD XJ : List UInt8) : Prop := ∃ K N E P, Vz c L B XD XJ K N E P
theorem Vx.later {c : Nat} {L : Nat → List UInt8} {B B' : Nat} {XD XJ : List UInt8} (h : Vx c L B XD XJ) (hB : B ≤ B') : Vx c L B' XD XJ := by
  obtain ⟨K, N, E, P, v⟩ := h
  exact ⟨K, N, E, P, { v with few := Nat.le_trans v.few hB }⟩
theorem Vx.congr {c : Nat} {L L' : Nat → List UInt8} {B : Nat} {XD XJ : List UInt8} (h : Vx c L B XD XJ) (e : ∀ k, k < c → L k = L' k) : Vx c L' B XD XJ := by
  obtain ⟨K, N, E, P, v⟩ := h
  exact ⟨K, N, E, P, { v with pgs := fun k hk => by rw [← e k hk]; exact v.pgs k hk }⟩
/-- A database without a log. -/
theorem vx_zero {db : List UInt8} {XJ : List UInt8} (h : Hk XJ 0) (B : Nat) : Vx (db.length / 256) (fun k => pgZ db (k + 1)) B db XJ :=
  ⟨0, n0, e0, p0, Lgx.zero h, Nat.zero_le _, fra0, .inl rfl, fun p p1 p2 _ => ⟨by unfold cntL at p2; rw [if_pos rfl] at p2; omega, fun j hj => by omega⟩, fun j hj => by omega, rfl, fun k hk => rfl⟩
theorem iv_zero (db : List UInt8) (N E : Nat → Nat) : Iv db 0 N E := fun p p1 p2 _ => ⟨by unfold cntL at p2; rw [if_pos rfl] at p2; omega, fun j hj => by omega⟩
/-- The page at a mark behind a commit. -/
theorem foldP_ext {K m n : Nat} {N Np : Nat → Nat} {P Lp : Nat → List UInt8} {p : Nat} {a : List UInt8} (hm : m = max n 1) (p1 : 1 ≤ p) : ∀ j, j ≤ m →
    foldP (ext K N (fN n Np)) (ext K P (fP n Lp)) p a (List.range (K + j)) = (fun j => foldP (fN n Np) (fP n Lp) p (foldP N P p a (List.range K)) (List.range j)) j
  | 0, _ => by
    show foldP _ _ p a (List.range K) = foldP N P p a (List.range K)
    unfold foldP
    have : ∀ (l : List Nat) (x : List UInt8), (∀ y ∈ l, y < K) → l.foldl (fun q k => if ext K N (fN n Np) k = p then ext K P (fP n Lp) k else q) x = l.foldl (fun q k => if N k = p then P k else q) x := fun l => by
      induction l with
      | nil => intro x _; rfl
      | cons y r ih =>
        intro x h
        rw [List.foldl_cons, List.foldl_cons, ext_lt (h y (by simp)), ext_lt (h y (by simp))]
        exact ih _ (fun z hz => h z (by simp [hz]))
    exact this _ _ (fun y hy => List.mem_range.1 hy)
  | j + 1, hj => by
    have ih := foldP_ext (K := K) (N := N) (Np := Np) (P := P) (Lp := Lp) (a := a) hm p1 j (by omega)
    show foldP _ _ p a (List.range (K + j + 1)) = foldP _ _ p _ (List.range (j + 1))
    rw [List.range_succ, List.range_succ, foldP_snoc, foldP_snoc, ext_ge, ext_ge, ih]
theorem foldP_in {n : Nat} {Np : Nat → Nat} {Lp : Nat → List UInt8} {p : Nat} (p1 : 1 ≤ p) (a : List UInt8) : ∀ m, n ≤ m → foldP (fN n Np) (fP n Lp) p a (List.range m) = foldP Np Lp p a (List.range n)
  | 0, h => by
    obtain rfl : n = 0 := by omega
    rfl
  | m + 1, h => by
    by_cases c : n = m + 1
    · subst c
      unfold foldP
      have : ∀ (l : List Nat) (x : List UInt8), (∀ y ∈ l, y < m + 1) → l.foldl (fun q k => if fN (m + 1) Np k = p then fP (m + 1) Lp k else q) x = l.foldl (fun q k => if Np k = p then Lp k else q) x := fun l => by
        induction l with
        | nil => intro x _; rfl
        | cons y r ih =>
          intro x hy
          have h1 : fN (m + 1) Np y = Np y := if_pos (hy y (by simp))
          have h2 : fP (m + 1) Lp y = Lp y := if_pos (hy y (by simp))
          rw [List.foldl_cons, List.foldl_cons, h1, h2]
          exact ih _ (fun z hz => hy z (by simp [hz]))
      exact this _ _ (fun y hy => List.mem_range.1 hy)
    · rw [List.range_succ, foldP_snoc, if_neg (by unfold fN; rw [if_neg (by omega)]; omega)]
      exact foldP_in p1 a m (by omega)
theorem foldP_aft {nw count n : Nat} {W : Nat → List UInt8} {Np : Nat → Nat} {Lp : Nat → List UInt8} (hN : Rise count n Np) {k : Nat} (a : List UInt8) (ha : (∀ j, j < n → Np j ≠ k + 1) → a = padL nw W k) : foldP Np Lp (k + 1) a (List.range n) = aftL nw W Np Lp n k := by
  by_cases c : ∃ j, j < n ∧ Np j = k + 1
  · obtain ⟨j, hj, e⟩ := c
    have h1 := aftL_in (nw := nw) (W := W) (L := Lp) hN n (Nat.le_refl _) hj
    rw [e, Nat.add_sub_cancel] at h1
    rw [h1]
    have : ∀ m, j < m → m ≤ n → foldP Np Lp (k + 1) a (List.range m) = Lp j := fun m => by
      induction m with
      | zero => intro h; omega
      | succ m ih =>
        intro h1 h2
        rw [List.range_succ, foldP_snoc]
        by_cases e2 : j = m
        · subst e2; rw [if_pos e]
        · have := hN.up j m (by omega) (by omega)
          rw [if_neg (by omega)]
          exact ih (by omega) (by omega)
    exact this n hj (Nat.le_refl _)
  · have hn : ∀ j, j < n → Np j ≠ k + 1 := fun j hj e => c ⟨j, hj, e⟩
    rw [foldP_none _ (fun x hx => hn x (List.mem_range.1 hx)), aftL_out hN n (Nat.le_refl _) hn]
    exact ha hn
theorem vz_commit {c : Nat} {L : Nat → List UInt8} {B : Nat} {XD XJ XJ' : List UInt8} {K : Nat} {N E : Nat → Nat} {P : Nat → List UInt8} (h : Vz c L B XD XJ K N E P) {n m count : Nat} {Np : Nat → Nat} {Lp : Nat → List UInt8} (hm : m = max n 1) (hn : n ≤ 15) (hcount : count ≤ 15) (hN : Rise count n Np) (hall : ∀ p, c < p → p ≤ count → ∃ j, j < n ∧ Np j = p) (hLl : ∀ j, j < n → (Lp j).length = 256) (hl : Lgx XJ' (K + m) (ext K N (fN n Np)) (ext K E (fE m count)) (ext K P (fP n Lp))) :
    Vz count (aftL c L Np Lp n) (B + 15) XD XJ' (K + m) (ext K N (fN n Np)) (ext K E (fE m count)) (ext K P (fP n Lp)) := by
  have hEl : ext K E (fE m count) (K + m - 1) = count + 1 := by
    rw [show K + m - 1 = K + (m - 1) by omega, ext_ge]
    unfold fE
    rw [if_neg (by omega)]
  have hcn : cntL XD (K + m) (ext K E (fE m count)) = count := by
    unfold cntL
    rw [if_neg (by omega), hEl]; rfl
  have hfr := fra_ext (K := K) h.fra (fra_commit (L := Lp) hm (by omega) (fun j hj => hN.low j hj) hLl)
  have hpage : ∀ p, 1 ≤ p → p ≤ count → (∀ j, j < n → Np j ≠ p) → p ≤ c := fun p p1 p2 hp => by
    rcases Nat.lt_or_ge c p with hc | hc
    · obtain ⟨j, h1, h2⟩ := hall p hc p2
      exact absurd h2 (hp j h1)
    · exact hc
  refine ⟨hl, by have := h.few; omega, hfr, ext_end (by omega), ?_, fun j hj => ?_, hcn, fun k hk => ?_⟩
  · intro p p1 p2 hp
    rw [hcn] at p2
    have hnp : ∀ j, j < n → Np j ≠ p := fun j hj e => hp (K + j) (by omega) (by rw [ext_ge]; unfold fN; rw [if_pos hj]; exact e)
    have hpc := hpage p p1 p2 hnp
    have hiv := h.iv p p1 (by rw [h.cnt]; exact hpc) (fun x hx e => hp x (by omega) (by rw [ext_lt hx]; exact e))
    refine ⟨hiv.1, fun j hj he => ?_⟩
    by_cases c1 : j < K
    · rw [ext_lt c1] at he ⊢
      exact hiv.2 j c1 he
    · obtain ⟨i, rfl⟩ : ∃ i, j = K + i := ⟨j - K, by omega⟩
      rw [ext_ge] at he ⊢
      unfold fE at he ⊢
      split at he
      · exact absurd rfl he
      · rename_i hx; rw [if_neg hx]; omega
  · by_cases c1 : j < K
    · rw [ext_lt c1]; exact h.low j c1
    · obtain ⟨i, rfl⟩ : ∃ i, j = K + i := ⟨j - K, by omega⟩
      rw [ext_ge]
      unfold fE
      split <;> omega
  · unfold pgAt
    rw [foldP_ext hm (by omega) m (Nat.le_refl _)]
    show foldP (fN n Np) (fP n Lp) (k + 1) (foldP N P (k + 1) (pgZ XD (k + 1)) (List.range K)) (List.range m) = _
    rw [foldP_in (by omega) _ m (by omega)]
    refine foldP_aft hN _ (fun hnp => ?_)
    have hpc := hpage (k + 1) (by omega) (by omega) hnp
    unfold padL
    rw [if_pos (by omega)]
    exact h.pgs k (by omega)
/-- What is told at the last mark stays, whatever is done to the database where frames tell. -/
theorem vz_intact {c : Nat} {L : Nat → List UInt8} {B : Nat} {XD XJ YD YJ : List UInt8} {K : Nat} {N E : Nat → Nat} {P : Nat → List UInt8} (h : Vz c L B XD XJ K N E P) (hK : 1 ≤ K) (hl : Lgx YJ K N E P) (hI : Intact XD c (tlM N K) YD) : Vz c L B YD YJ K N E P := by
  rw [← h.cnt] at hI
  refine ⟨hl, h.few, h.fra, h.end_, iv_of hK hI h.iv, h.low, by rw [cntL_pos (db' := XD) hK]; exact h.cnt, fun k hk => ?_⟩
  rw [at_intact hI h.iv (by omega) (by rw [h.cnt]; omega)]
  exact h.pgs k hk
/-- All of a log brought home. -/
theorem vx_home {c : Nat} {L : Nat → List UInt8} {B : Nat} {XD XJ YJ new : List UInt8} {K : Nat} {N E : Nat → Nat} {P : Nat → List UInt8} (h : Vz c L B XD XJ K N E P) (hj : Hk YJ 0) (hc : Chk XD new c K K c N P) : Vx c L B new YJ := by
  obtain ⟨n, T, hH, hD⟩ := hc.ex
  have hlen := hD.len
  have hv := vx_zero (db := new) hj B
  rw [show new.length / 256 = c by omega] at hv
  refine hv.congr (fun k hk => ?_)
  rw [← h.pgs k hk]
  unfold pgZ
  rw [if_pos (by omega)]
  rcases hD.pgs (k + 1) (by omega) (by omega) with ⟨j, h1, h2, h3⟩ | ⟨h1, h2⟩
  · rw [h3]
    unfold homP pgAt
    rw [h2]
    refine foldP_cov _ _ ?_
    obtain ⟨_, _, x, hx, e⟩ := hH.low j h1
    exact ⟨x, List.mem_range.2 hx, by omega⟩
  · have hn : ∀ x, x < K → N x ≠ k + 1 := fun x hx e => by
      obtain ⟨j, hj, e2⟩ := hH.all (k + 1) (by omega) (by omega) ⟨x, hx, e⟩
      exact h1 j hj e2
    have hiv := (h.iv (k + 1) (by omega) (by rw [h.cnt]; omega) hn).1
    unfold pgAt
    rw [foldP_none _ (fun x hx => hn x (List.mem_range.1 hx)), h2 hiv]
    unfold pgZ
    rw [if_pos hiv]
end Go.Proofs.YteocmhbllckpjaaGreat

namespace Go.Proofs.YteocmhbllckpjaaGreat
open Go.ChangeShapes Go.WideShapes Go.ChangeAt Go.RowKit
open Go.ChangeMaps (setBlock)
set_option linter.unusedVariables false

theorem Safe.mono {Q Q' : List UInt8 → List UInt8 → Prop} {s : PS} (h : Safe Q s) (hq : ∀ x y, Q x y → Q' x y) : Safe Q' s := fun XD XJ hD hJ => hq _ _ (h XD XJ hD hJ)
/-- A change of a log was made, or it crashed. -/
structure Do1 (w V w' : World) (D : DS) (i c : Nat) (L : Nat → List UInt8) (c2 : Nat) (L2 : Nat → List UInt8) (B : Nat) (x : Int) : Prop where
  rows : Rows2 V w'
  how : (x = 0 ∧ ∃ D' i', Cl w w' 200000 D' i' ∧ i' ≤ i + 300 ∧ Vx c2 L2 B (seenOf D' nmD) (seenOf D' nmJ) ∧ (D.fuse = 0 → D'.fuse = 0)) ∨ (x = 7 ∧ D.fuse ≠ 0 ∧ ∃ D' i', Dw w w' 200000 D' i' (fun XD XJ => Vx c L B XD XJ ∨ Vx c2 L2 B XD XJ) ∧ i' ≤ i + 300)
theorem com_vz (w V : World) {D : DS} {i : Nat} (h : Cl w V 200000 D i) {c : Nat} {L : Nat → List UInt8} {B K : Nat} {N E : Nat → Nat} {P : Nat → List UInt8} (hv : Vz c L B (seenOf D nmD) (seenOf D nmJ) K N E P) (hB : B + 15 ≤ 180) (hc : c ≤ 15) (hi : i ≤ 10000) (count : Nat) (hcount : count ≤ 15) (nb : Nat) (Bf : Nat → UInt8) (p : Option Addr) (n cap : Nat) (hn : n = (selL c nb Bf count).length) (hp : PgA V p n (fun j => (selN c nb Bf count j : Int)) (selP c nb Bf count)) :
    Calls Tryz.prog 20 #[.pointer (some ⟨w.heap.size + 1, 0, none⟩), .int .i64 (count : Int), .slice p n cap] V fun e w' => ∃ y x : Int, e = .returned (.tuple #[.int .i64 y, .int .i64 x]) ∧ Do1 w V w' D i c L count (aftL c L (selN c nb Bf count) (selP c nb Bf count) n) (B + 15) x := by
  obtain ⟨who, R⟩ := h.rep
  have hrise : Rise count n (selN c nb Bf count) := by rw [hn]; exact selL_rise c nb Bf count
  have hall : ∀ p, c < p → p ≤ count → ∃ j, j < n ∧ selN c nb Bf count j = p := fun p h1 h2 => by rw [hn]; exact selL_all h1 h2
  have hn15 : n ≤ 15 := by rw [hn]; exact Nat.le_trans (selL_len _ _ _ _) hcount
  have hlen := h.ji.len nmD
  obtain ⟨m, hm⟩ : ∃ m, m = max n 1 := ⟨_, rfl⟩
  have hfew := hv.few
  refine (commitW_x V _ _ D who R h.ji h.clean hv.lg hv.fra hv.end_ c count hv.cnt.symm (by omega) (by omega) p n cap m hm (selN c nb Bf count) (selP c nb Bf count) hp (by omega) hi (by omega) (by omega) (by rw [hn]; exact selL_may (by omega)) (fun j hj => hrise.low j hj) (fun j _ => fullL_length _)).mono ?_
  rintro e w' (⟨rfl, D', who', i', hm', hj, hi', hch, hl', hd', hf'⟩ | ⟨rfl, hnz, D', who', i', hm', hj, hi', hdn, hs⟩)
  · refine ⟨_, 0, rfl, Rows2.moved R hm', .inl ⟨rfl, D', i', ⟨⟨who', hm'.rep⟩, hj, h.bel.trans (hm'.mv.below R), hch⟩, by omega, ?_, hf'⟩⟩
    rw [hd']
    exact ⟨_, _, _, _, vz_commit hv hm hn15 hcount hrise hall (fun j _ => fullL_length _) hl'⟩
  · refine ⟨0, 7, rfl, Rows2.moved R hm', .inr ⟨rfl, hnz, D', i', ⟨⟨who', hm'.rep⟩, hj, h.bel.trans (hm'.mv.below R), hdn, hs.mono (fun XD XJ hg => ?_)⟩, by omega⟩⟩
    obtain ⟨rfl, hg | hg⟩ := hg
    · refine .inl ⟨K, N, E, P, { hv with lg := hg.congr (fun k hk => ⟨ext_lt hk, ext_lt hk, ext_lt hk⟩), few := by omega }⟩
    · exact .inr ⟨_, _, _, _, vz_commit hv hm hn15 hcount hrise hall (fun j _ => fullL_length _) hg⟩
theorem cp_vz (w V : World) {D : DS} {i : Nat} (h : Cl w V 200000 D i) {c : Nat} {L : Nat → List UInt8} {B K : Nat} {N E : Nat → Nat} {P : Nat → List UInt8} (hv : Vz c L B (seenOf D nmD) (seenOf D nmJ) K N E P) (hB : B + 15 ≤ 180) (hi : i ≤ 10000) (M : Nat) (hM : IsM K E M) :
    Calls Tryz.prog 22 #[.pointer (some ⟨w.heap.size + 1, 0, none⟩), .int .i64 (M : Int)] V fun e w' => ∃ x : Int, e = .returned (.int .i64 x) ∧ Do1 w V w' D i c L c L (B + 15) x := by
  obtain ⟨who, R⟩ := h.rep
  have hfew := hv.few
  rcases Nat.eq_zero_or_pos M with rfl | hM1
  · refine (checkpoint_zero V _ _ D who R h.ji (hv.lg.lgf (by omega) hv.fra hv.end_)).mono ?_
    rintro e w' ⟨rfl, hg⟩
    exact ⟨0, rfl, Rows2.grown hg, .inl ⟨rfl, D, i, h.grown hg, by omega, Vx.later ⟨K, N, E, P, hv⟩ (by omega), fun hz => hz⟩⟩
  · have hMK := hM.le
    have hcM : cntL (seenOf D nmD) M E ≤ 200 := by
      unfold cntL
      rw [if_neg (by omega)]
      have := hv.low (M - 1) (by omega)
      omega
    refine (checkpoint_x V _ _ D who R (by omega) h.ji h.clean (by omega) hv.lg hv.fra hv.end_ M hM hM1 c (cntL (seenOf D nmD) M E) hv.cnt.symm rfl hcM hv.iv hi).mono ?_
    rintro e w' ⟨x, rfl, ⟨rfl, D', who', i', hm', hj, hi', hch, hl', hck, hf'⟩ | ⟨rfl, hnz, D', who', i', new, hm', hj, hi', hdn, hs, hck⟩⟩
    · refine ⟨0, rfl, Rows2.moved R hm', .inl ⟨rfl, D', i', ⟨⟨who', hm'.rep⟩, hj, h.bel.trans (hm'.mv.below R), hch⟩, by omega, ?_, hf'⟩⟩
      rcases hl' with ⟨_, hl'⟩ | ⟨rfl, hl'⟩
      · exact Vx.later ⟨K, N, E, P, vz_intact hv (by omega) hl' hck.intact⟩ (by omega)
      · rw [hv.cnt] at hck
        exact (vx_home hv hl' hck).later (by omega)
    · refine ⟨7, rfl, Rows2.moved R hm', .inr ⟨rfl, hnz, D', i', ⟨⟨who', hm'.rep⟩, hj, h.bel.trans (hm'.mv.below R), hdn, hs.mono (fun XD XJ hg => .inl ?_)⟩, by omega⟩⟩
      rcases hg with ⟨hl, hI⟩ | ⟨rfl, hk, rfl⟩
      · exact Vx.later ⟨K, N, E, P, vz_intact hv (by omega) hl hI⟩ (by omega)
      · have := hck rfl
        rw [hv.cnt] at this
        exact (vx_home hv hk this).later (by omega)
theorem tell_vz (w V : World) {D : DS} {i : Nat} (h : Cl w V 200000 D i) {c : Nat} {L : Nat → List UInt8} {B K : Nat} {N E : Nat → Nat} {P : Nat → List UInt8} (hv : Vz c L B (seenOf D nmD) (seenOf D nmJ) K N E P) (hB : B + 15 ≤ 180) (hc : c ≤ 15) : Calls Tryz.prog 23 #[.pointer (some ⟨w.heap.size + 1, 0, none⟩), .int .i64 (K : Int)] V fun e w' => (∃ q cp, e = .returned (.slice q c cp) ∧ PgR w' q c L) ∧ V.grownBy w' none := by
  obtain ⟨who, R⟩ := h.rep
  have hfew := hv.few
  refine (tell_w V _ _ D who R h.ji (hv.lg.lgf (by omega) hv.fra hv.end_) K (by rcases hv.end_ with e | e; exact .inl e; exact .inr ⟨Nat.le_refl _, e⟩) c hv.cnt.symm (by omega)).mono ?_
  rintro e w' ⟨⟨q, cp, rfl, hp⟩, hg⟩
  refine ⟨⟨q, cp, rfl, fun h0 => ?_⟩, hg⟩
  obtain ⟨g, cur, e, hb, hcl⟩ := hp h0
  exact ⟨g, cur, e, hb, fun k hk => by rw [← hv.pgs k hk]; exact hcl k hk⟩
theorem mark_vz (w V : World) {D : DS} {i : Nat} (h : Cl w V 200000 D i) {c : Nat} {L : Nat → List UInt8} {B K : Nat} {N E : Nat → Nat} {P : Nat → List UInt8} (hv : Vz c L B (seenOf D nmD) (seenOf D nmJ) K N E P) (hB : B + 15 ≤ 180) : Calls Tryz.prog 16 #[.pointer (some ⟨w.heap.size + 1, 0, none⟩)] V fun e w' => e = .returned (.tuple #[.int .i64 (K : Int), .int .i64 0]) ∧ V.grownBy w' none := by
  obtain ⟨who, R⟩ := h.rep
  have hfew := hv.few
  exact markX_w V _ _ D who R h.ji (hv.lg.lgf (by omega) hv.fra hv.end_)
/-- All marks, as a row of numbers. -/
def mkN (E : Nat → Nat) (K : Nat) : List Nat := 0 :: ((List.range K).filter (fun x => decide (E x ≠ 0))).map (fun x => x + 1)
theorem mkN_mks (E : Nat → Nat) (K : Nat) : mks E (List.range K) = (mkN E K).map (fun n : Nat => (n : Int)) := by
  unfold mks mkN
  rw [List.map_cons, List.map_map]
  rfl
theorem mkN_isM {E : Nat → Nat} {K M : Nat} (h : M ∈ mkN E K) : IsM K E M := by
  unfold mkN at h
  rcases List.mem_cons.1 h with rfl | h
  · exact .inl rfl
  · obtain ⟨x, hx, rfl⟩ := List.mem_map.1 h
    have := List.mem_filter.1 hx
    exact .inr ⟨by have := List.mem_range.1 this.1; omega, by simpa using this.2⟩

set_option maxHeartbeats 2000000 in
theorem marksX_w (w : World) (base b : Nat) (D : DS) (who : Nat → Nat) (R : Rep w base b D who) {r : Int} {i : Nat} (h : JI r D i) {K : Nat} {N E : Nat → Nat} {P : Nat → List UInt8} (hL : Lgf (seenOf D nmJ) K N E P) :
    Calls Tryz.prog 17 #[.pointer (some ⟨b, 0, none⟩)] w fun x w' => (∃ p, (∃ cap, x = .returned (.tuple #[.slice p (mkN E K).length cap, .int .i64 0])) ∧ IntA w' p (mkN E K).length (fun k => (mkN E K).getD k 0)) ∧ w.grownBy w' none := by
  have HOp : Hid (Calls Tryz.prog 42 #[.pointer (some ⟨b, 0, none⟩)] w fun e w' => e = .returned (.tuple #[.agg #[.pointer (some ⟨b, 0, none⟩), .string (bstr (txt (seenOf D nmJ) K)), .int .i64 (K : Int)], .int .i64 0]) ∧ w.grownBy w' none) := open_w w base b D who R h hL
  have HMk : Hid (∀ V, Calls Tryz.prog 43 #[.agg #[.pointer (some ⟨b, 0, none⟩), .string (bstr (txt (seenOf D nmJ) K)), .int .i64 (K : Int)]] V fun x w' => (∃ p cap, x = .returned (.slice p (mkN E K).length cap) ∧ IntA w' p (mkN E K).length (fun k => (mkN E K).getD k 0)) ∧ V.grownBy w' none) := fun V => by
    refine (marksW_w V b _ K hL.few N E P hL.frs hL.all).mono ?_
    rintro e w' ⟨⟨v, rfl, hown⟩, hb⟩
    rw [mkN_mks, List.length_map] at hown
    obtain ⟨p, cap, rfl, hI⟩ := own_ints hown (by rw [List.length_map]) (fun k => (mkN E K).getD k 0) (fun k x hx => by
      rw [List.getElem?_map] at hx
      obtain ⟨y, hy, rfl⟩ := Option.map_eq_some_iff.1 hx
      simp [List.getD, hy])
    exact ⟨⟨p, cap, rfl, hI⟩, grown_of_below hb⟩
  have HI93 := hideJ info93
  have HZ := hideJ (fun V => alloc_new V (.cells #[.pointer none, .string ⟨#[]⟩, .int .i64 0] 93))
  generalize bstr (txt (seenOf D nmJ) K) = T at HOp HMk
  generalize (fun k => (mkN E K).getD k 0) = MF at HMk ⊢
  generalize (mkN E K).length = ml at HMk ⊢
  clear R h hL
  go_enter Tryz.func17, Tryz.ntmps17
  go_wp2_with (first
    | (go_at_call 42; (with_reducible refine Calls.mono HOp.out ?_); rintro e w1 ⟨rfl, hg⟩; have HG1 := hideJ hg; clear hg)
    | ((with_reducible refine at93S ?_); refine wp_storeB (c := #[.pointer (some ⟨b, 0, none⟩), .string T, .int .i64 (K : Int)]) HI93.out (by rfl) three_one (HZ.out _) _ _ (by rfl) (by rfl) (by rfl) (by rfl) ?_; intro W2 hb2 ho2; have HB2 := hideJ hb2; have HG2 := hideJ (grown_only (grown_trans' HG1.out (World.grownBy_alloc _ _ _)) ho2 HG1.out.size); clear hb2 ho2)
    | ((with_reducible refine at93L ?_); refine wp_loadB (c := #[.pointer (some ⟨b, 0, none⟩), .string T, .int .i64 (K : Int)]) HI93.out u93 HB2.out _ (by rfl) (by rfl) (by rfl) ?_)
    | (go_at_call 43; (with_reducible refine Calls.mono (HMk.out _) ?_); rintro e w3 ⟨⟨p3, c3, rfl, hI3⟩, hg⟩; have HI3 := hideJ hI3; have HG3 := hideJ (grown_trans' HG2.out hg); clear hg hI3))
  go_ret2
  exact ⟨⟨p3, ⟨c3, rfl⟩, HI3.out⟩, HG3.out⟩
theorem marks_vz (w V : World) {D : DS} {i : Nat} (h : Cl w V 200000 D i) {c : Nat} {L : Nat → List UInt8} {B K : Nat} {N E : Nat → Nat} {P : Nat → List UInt8} (hv : Vz c L B (seenOf D nmD) (seenOf D nmJ) K N E P) (hB : B + 15 ≤ 180) : Calls Tryz.prog 17 #[.pointer (some ⟨w.heap.size + 1, 0, none⟩)] V fun x w' => (∃ p, (∃ cap, x = .returned (.tuple #[.slice p (mkN E K).length cap, .int .i64 0])) ∧ IntA w' p (mkN E K).length (fun k => (mkN E K).getD k 0)) ∧ V.grownBy w' none := by
  obtain ⟨who, R⟩ := h.rep
  have hfew := hv.few
  exact marksX_w V _ _ D who R h.ji (hv.lg.lgf (by omega) hv.fra hv.end_)
end Go.Proofs.YteocmhbllckpjaaGreat

namespace Go.Proofs.YteocmhbllckpjaaGreat
open Go.ChangeShapes Go.WideShapes Go.ChangeAt Go.RowKit
open Go.ChangeMaps (setBlock)
set_option linter.unusedVariables false

/-- What do hands back. -/
def DoX (w V : World) (D : DS) (i c : Nat) (L : Nat → List UInt8) (B : Nat) (e : Ending) (w' : World) : Prop :=
  ∃ q c2 cp, ∃ x : Int, ∃ L2, e = .returned (.tuple #[.slice q c2 cp, .int .i64 x]) ∧ c2 ≤ 15 ∧ PgR w' q c2 L2 ∧ Do1 w V w' D i c L c2 L2 B x
theorem Do1.from {w V V' w' : World} {D : DS} {i c : Nat} {L : Nat → List UInt8} {c2 : Nat} {L2 : Nat → List UInt8} {B : Nat} {x : Int} (h : Do1 w V' w' D i c L c2 L2 B x) (hr : V.grownBy V' none) : Do1 w V w' D i c L c2 L2 B x := ⟨(Rows2.grown hr).trans h.rows, h.how⟩
theorem Do1.grown {w V w' w'' : World} {D : DS} {i c : Nat} {L : Nat → List UInt8} {c2 : Nat} {L2 : Nat → List UInt8} {B : Nat} {x : Int} (h : Do1 w V w' D i c L c2 L2 B x) (hr : w'.grownBy w'' none) : Do1 w V w'' D i c L c2 L2 B x :=
  ⟨h.rows.trans (Rows2.grown hr), by
    rcases h.how with ⟨e, D', i', h1, h2⟩ | ⟨e, hn, D', i', h1, h2⟩
    · exact .inl ⟨e, D', i', h1.grown hr, h2⟩
    · exact .inr ⟨e, hn, D', i', { h1 with rep := h1.rep.imp fun who R => R.keep hr, bel := h1.bel.trans (grown_below h1.bel.size hr) }, h2⟩⟩
theorem pgr_len {w : World} {p : Option Addr} {n : Nat} {L : Nat → List UInt8} (h : PgR w p n L) : ∀ j, j < n → (L j).length = 256 := fun j hj => by
  obtain ⟨_, _, _, _, hh⟩ := h (by omega)
  exact (hh j hj).1
theorem u64c : ∃ d, Tryz.prog.underlying 64 = some d ∧ d.isRow = true := ⟨_, Tryz.underlying64, rfl⟩
theorem info64 : (Tryz.prog.info? 64).map (·.size) = some 3 := by kernel_rfl
theorem at64L {P : Program} {ops : Array Oper} {Q : Exit → Act → World → Prop} {d : Option Tmp} {x : Operand} {ty : TypeId} {pos : String} {af : Array Edge} {gd : Option (Nat × Bool)} {rest : List Oper} {a : Act} {w : World} (h : wpList P ops Q ({ dst := d, op := .load 64 x, type := ty, pos := pos, after := af, guard := gd } :: rest) a w) : wpList P ops Q ({ dst := d, op := .load 64 x, type := ty, pos := pos, after := af, guard := gd } :: rest) a w := h

set_option maxHeartbeats 8000000 in
set_option maxRecDepth 20000 in
theorem do_home (w V : World) {D : DS} {i : Nat} (h : Cl w V 200000 D i) {c : Nat} {L : Nat → List UInt8} {B : Nat} (hv : Vx c L B (seenOf D nmD) (seenOf D nmJ)) (hB : B + 15 ≤ 180) (hc : c ≤ 15) (hi : i ≤ 10000) (cv : Int) (pb : Option Addr) (nb cb : Nat) :
    Calls Tryz.prog 25 #[.pointer (some ⟨w.heap.size + 1, 0, none⟩), .agg #[.bool true, .int .i64 cv, .slice pb nb cb]] V fun e w' => DoX w V D i c L (B + 15) e w' := by
  obtain ⟨K, N, E, P, v⟩ := hv
  have HX : Hid (Blk (V.alloc (.cells #[.bool true, .int .i64 cv, .slice pb nb cb] 64)) V.heap.size #[.bool true, .int .i64 cv, .slice pb nb cb] 64) := alloc_new _ _
  have HG0 := hideJ (World.grownBy_alloc V (.cells #[.bool true, .int .i64 cv, .slice pb nb cb] 64) none)
  have HC0 := hideJ (h.grown HG0.out)
  have HMk := hideJ (fun U (hu : Cl w U 200000 D i) => mark_vz w U hu v hB)
  have HTl := hideJ (fun U (hu : Cl w U 200000 D i) => tell_vz w U hu v hB hc)
  have HMs := hideJ (fun U (hu : Cl w U 200000 D i) => marks_vz w U hu v hB)
  have HCp := hideJ (fun U (hu : Cl w U 200000 D i) M hM => cp_vz w U hu v hB hi M hM)
  obtain ⟨cn, hcn, hcv'⟩ := and_small cv 1023 (by omega)
  have hcv : bits .and .i64 cv 1023 = (cn : Int) := hcv'
  clear hcv'
  have hml : 1 ≤ (mkN E K).length := by unfold mkN; simp
  have HMF : Hid (∀ k, k < (mkN E K).length → IsM K E ((fun k => (mkN E K).getD k 0) k)) := fun k hk => mkN_isM (by show (mkN E K).getD k 0 ∈ _; rw [List.getD_eq_getElem?_getD, List.getElem?_eq_getElem hk]; exact List.getElem_mem hk)
  have hmK : (mkN E K).length ≤ 1000 := by
    unfold mkN
    have h1 := List.length_filter_le (fun x => decide (E x ≠ 0)) (List.range K)
    have h2 := v.few
    rw [List.length_range] at h1
    simp only [List.length_cons, List.length_map]
    omega
  generalize (fun k => (mkN E K).getD k 0) = MF at HMs HMF
  generalize (mkN E K).length = ml at HMs HMF hml hmK
  have hrm : (cn : Int).tmod (ml : Int) = ((cn % ml : Nat) : Int) := by rw [Int.tmod_eq_emod_of_nonneg (by omega)]; rfl
  have hrl : cn % ml < ml := Nat.mod_lt _ (by omega)
  obtain ⟨t, ht⟩ : ∃ t, t = cn % ml := ⟨_, rfl⟩
  rw [← ht] at hrm hrl
  have hwt : IntKind.i64.wrap (t : Int) = (t : Int) := by rw [IntKind.wrap_i64]; omega
  have z0 : (0 : Int) ≤ (t : Int) := by omega
  have z1 : (t : Int) < (ml : Int) := by omega
  have z2 : ((ml : Int) == 0) = false := by simp; omega
  have z3 : ¬ (ml : Int) = 0 := by omega
  have HT := hideJ hrl
  have HH := hideJ (And.intro h v)
  clear h v ht hml hrl hmK
  go_enter Tryz.func25, Tryz.ntmps25
  go_wp2_with (first
    | (go_at_call 16; (with_reducible refine Calls.mono (HMk.out _ HC0.out) ?_); rintro e w1 ⟨rfl, hg⟩; have HG1 := hideJ (grown_trans' HG0.out hg); have HC1 := hideJ (HC0.out.grown hg); have HX1 := hideJ (Blk.grown HX.out hg); clear hg)
    | (go_at_call 23; (with_reducible refine Calls.mono (HTl.out _ HC1.out) ?_); rintro e w2 ⟨⟨q2, c2, rfl, hp2⟩, hg⟩; have HP2 := hideJ hp2; have HG2 := hideJ (grown_trans' HG1.out hg); have HC2 := hideJ (HC1.out.grown hg); have HX2 := hideJ (Blk.grown HX1.out hg); have cx0 := (HX2.out.cell 0).trans (show _ = some (Value.bool true) from rfl); clear hg hp2)
    | (go_at_call 17; (with_reducible refine Calls.mono (HMs.out _ HC2.out) ?_); rintro e w3 ⟨⟨p3, ⟨c3, rfl⟩, hI3⟩, hg⟩; obtain ⟨g3, cur3, rfl, hb3, hc3⟩ := hI3 (by have := HT.out; omega); have hx3 := (hb3.cell t).trans (hc3 t HT.out); have HP3 := hideJ (HP2.out.grown hg); have HG3 := hideJ (grown_trans' HG2.out hg); have HC3 := hideJ (HC2.out.grown hg); have HX3 := hideJ (Blk.grown HX2.out hg); have cx1 := (HX3.out.cell 1).trans (show _ = some (Value.int .i64 cv) from rfl); clear hg hI3 hb3 hc3 cx0)
    | (go_at_call 22; (with_reducible refine Calls.mono (HCp.out _ HC3.out _ (HMF.out _ HT.out)) ?_); rintro e w4 ⟨x4, rfl, h4⟩; have HR4 := hideJ (h4.rows.1 _ _ _ HP3.out); have HD4 := hideJ (h4.from HG3.out); clear h4))
  go_ret2
  exact ⟨q2, c, c2, x4, L, rfl, hc, HR4.out, HD4.out⟩
set_option maxHeartbeats 8000000 in
set_option maxRecDepth 20000 in
theorem do_com (w V : World) {D : DS} {i : Nat} (h : Cl w V 200000 D i) {c : Nat} {L : Nat → List UInt8} {B : Nat} (hv : Vx c L B (seenOf D nmD) (seenOf D nmJ)) (hB : B + 15 ≤ 180) (hc : c ≤ 15) (hi : i ≤ 10000) (cv : Int) (pb : Option Addr) (nb cb : Nat) (Bf : Nat → UInt8) (hb : ByA V pb nb Bf) :
    Calls Tryz.prog 25 #[.pointer (some ⟨w.heap.size + 1, 0, none⟩), .agg #[.bool false, .int .i64 cv, .slice pb nb cb]] V fun e w' => DoX w V D i c L (B + 15) e w' := by
  obtain ⟨K, N, E, P, v⟩ := hv
  have HX : Hid (Blk (V.alloc (.cells #[.bool false, .int .i64 cv, .slice pb nb cb] 64)) V.heap.size #[.bool false, .int .i64 cv, .slice pb nb cb] 64) := alloc_new _ _
  have HG0 := hideJ (World.grownBy_alloc V (.cells #[.bool false, .int .i64 cv, .slice pb nb cb] 64) none)
  have HC0 := hideJ (h.grown HG0.out)
  have HMk := hideJ (fun U (hu : Cl w U 200000 D i) => mark_vz w U hu v hB)
  have HTl := hideJ (fun U (hu : Cl w U 200000 D i) => tell_vz w U hu v hB hc)
  obtain ⟨cn, hcn, hcv'⟩ := and_small cv 15 (by omega)
  have hcv : bits .and .i64 cv 15 = (cn : Int) := hcv'
  clear hcv'
  have HPg := hideJ (fun U (hu : V.grownBy U none) => pages_w U false cv c cn nb cb hcv hcn hc pb Bf (hb.grown hu))
  obtain ⟨n, hn⟩ : ∃ n, n = (selL c nb Bf cn).length := ⟨_, rfl⟩
  rw [← hn] at HPg
  have HCm := hideJ (fun U (hu : Cl w U 200000 D i) p cap hp => com_vz w U hu v hB hc hi cn hcn nb Bf p n cap hn hp)
  have hrise : Rise cn n (selN c nb Bf cn) := by rw [hn]; exact selL_rise c nb Bf cn
  have hn15 : n ≤ 15 := by rw [hn]; exact Nat.le_trans (selL_len _ _ _ _) hcn
  generalize selN c nb Bf cn = NN at HPg HCm hrise
  generalize selP c nb Bf cn = LL at HPg HCm
  have HAf := hideJ (fun U q2 c2 q3 c3 hq hWl hp => after_j U q2 q3 c c2 n c3 cn L NN LL hq hWl hp hrise (by omega) (by omega) (by omega))
  have HI64 := hideJ info64
  have HCo := hideJ hcn
  have HH := hideJ (And.intro h v)
  clear h v hn hrise hn15 hcv hb hcn
  go_enter Tryz.func25, Tryz.ntmps25
  go_wp2_with (first
    | (go_at_call 16; (with_reducible refine Calls.mono (HMk.out _ HC0.out) ?_); rintro e w1 ⟨rfl, hg⟩; have HG1 := hideJ (grown_trans' HG0.out hg); have HC1 := hideJ (HC0.out.grown hg); have HX1 := hideJ (Blk.grown HX.out hg); clear hg)
    | (go_at_call 23; (with_reducible refine Calls.mono (HTl.out _ HC1.out) ?_); rintro e w2 ⟨⟨q2, c2, rfl, hp2⟩, hg⟩; have HP2 := hideJ hp2; have HG2 := hideJ (grown_trans' HG1.out hg); have HC2 := hideJ (HC1.out.grown hg); have HX2 := hideJ (Blk.grown HX1.out hg); have cx0 := (HX2.out.cell 0).trans (show _ = some (Value.bool false) from rfl); clear hg hp2)
    | ((with_reducible refine at64L ?_); refine wp_loadB (c := #[.bool false, .int .i64 cv, .slice pb nb cb]) HI64.out u64c HX2.out _ (by rfl) (by rfl) (by rfl) ?_; clear cx0)
    | (go_at_call 51; (with_reducible refine Calls.mono (HPg.out _ HG2.out) ?_); rintro e w3 ⟨⟨q3, c3, rfl, hp3⟩, hg⟩; have HP3 := hideJ hp3; have HQ3 := hideJ (HP2.out.grown hg); have HG3 := hideJ (grown_trans' HG2.out hg); have HC3 := hideJ (HC2.out.grown hg); clear hg hp3)
    | (go_at_call 20; (with_reducible refine Calls.mono (HCm.out _ HC3.out _ _ HP3.out) ?_); rintro e w4 ⟨y4, x4, rfl, h4⟩; have HQ4 := hideJ (h4.rows.1 _ _ _ HQ3.out); have HP4 := hideJ (h4.rows.2 _ _ _ _ HP3.out); have HD4 := hideJ (h4.from HG3.out); clear h4)
    | (go_at_call 52; (with_reducible refine Calls.mono (HAf.out _ _ _ _ _ HQ4.out (pgr_len HQ4.out) HP4.out) ?_); rintro e w5 ⟨⟨q5, c5, rfl, hp5⟩, hg⟩; have HP5 := hideJ hp5; have HD5 := hideJ (HD4.out.grown hg); clear hg hp5))
  go_ret2
  exact ⟨q5, cn, c5, x4, _, rfl, HCo.out, HP5.out, HD5.out⟩
theorem do_w (w V : World) {D : DS} {i : Nat} (h : Cl w V 200000 D i) {c : Nat} {L : Nat → List UInt8} {B : Nat} (hv : Vx c L B (seenOf D nmD) (seenOf D nmJ)) (hB : B + 15 ≤ 180) (hc : c ≤ 15) (hi : i ≤ 10000) (hm : Bool) (cv : Int) (pb : Option Addr) (nb cb : Nat) (Bf : Nat → UInt8) (hb : ByA V pb nb Bf) :
    Calls Tryz.prog 25 #[.pointer (some ⟨w.heap.size + 1, 0, none⟩), .agg #[.bool hm, .int .i64 cv, .slice pb nb cb]] V fun e w' => DoX w V D i c L (B + 15) e w' := by
  cases hm
  · exact do_com w V h hv hB hc hi cv pb nb cb Bf hb
  · exact do_home w V h hv hB hc hi cv pb nb cb
end Go.Proofs.YteocmhbllckpjaaGreat

namespace Go.Proofs.YteocmhbllckpjaaGreat
open Go.ChangeShapes Go.WideShapes Go.ChangeAt Go.RowKit
open Go.ChangeMaps (setBlock)
set_option linter.unusedVariables false

/-- Changes that were handed in. -/
def ChH (w : World) (p : Option Addr) (n : Nat) (hm : Nat → Bool) (cv : Nat → Int) (pb : Nat → Option Addr) (nb cb : Nat → Nat) (B : Nat → Nat → UInt8) : Prop := 0 < n → ∃ b o, p = some ⟨b, o, none⟩ ∧ ∀ i, i < n → w.cell? ⟨b, o + i * 3, none⟩ = some (.bool (hm i)) ∧ w.cell? ⟨b, o + i * 3 + 1, none⟩ = some (.int .i64 (cv i)) ∧ w.cell? ⟨b, o + i * 3 + 2, none⟩ = some (.slice (pb i) (nb i) (cb i)) ∧ ByA w (pb i) (nb i) (B i)
/-- Between two changes. -/
def Wx (w V : World) (B j : Nat) : Prop := ∃ D k c L, k ≤ j ∧ Cl w V 200000 D k ∧ D.fuse = 0 ∧ c ≤ 15 ∧ Vx c L B (seenOf D nmD) (seenOf D nmJ)
theorem mark_vs (w V : World) {D D2 : DS} {i : Nat} (h : Cl w V 200000 D2 i) (hs : seenOf D2 = seenOf D) {c : Nat} {L : Nat → List UInt8} {B K : Nat} {N E : Nat → Nat} {P : Nat → List UInt8} (hv : Vz c L B (seenOf D nmD) (seenOf D nmJ) K N E P) (hB : B + 15 ≤ 180) : Calls Tryz.prog 16 #[.pointer (some ⟨w.heap.size + 1, 0, none⟩)] V fun e w' => e = .returned (.tuple #[.int .i64 (K : Int), .int .i64 0]) ∧ V.grownBy w' none := mark_vz w V h (by rw [hs]; exact hv) hB
theorem tell_vs (w V : World) {D D2 : DS} {i : Nat} (h : Cl w V 200000 D2 i) (hs : seenOf D2 = seenOf D) {c : Nat} {L : Nat → List UInt8} {B K : Nat} {N E : Nat → Nat} {P : Nat → List UInt8} (hv : Vz c L B (seenOf D nmD) (seenOf D nmJ) K N E P) (hB : B + 15 ≤ 180) (hc : c ≤ 15) : Calls Tryz.prog 23 #[.pointer (some ⟨w.heap.size + 1, 0, none⟩), .int .i64 (K : Int)] V fun e w' => (∃ q cp, e = .returned (.slice q c cp) ∧ PgR w' q c L) ∧ V.grownBy w' none := tell_vz w V h (by rw [hs]; exact hv) hB hc
theorem do_ws (w V : World) {D D2 : DS} {i : Nat} (h : Cl w V 200000 D2 i) (hs : seenOf D2 = seenOf D) {c : Nat} {L : Nat → List UInt8} {B : Nat} (hv : Vx c L B (seenOf D nmD) (seenOf D nmJ)) (hB : B + 15 ≤ 180) (hc : c ≤ 15) (hi : i ≤ 10000) (hm : Bool) (cv : Int) (pb : Option Addr) (nb cb : Nat) (Bf : Nat → UInt8) (hb : ByA V pb nb Bf) :
    Calls Tryz.prog 25 #[.pointer (some ⟨w.heap.size + 1, 0, none⟩), .agg #[.bool hm, .int .i64 cv, .slice pb nb cb]] V fun e w' => DoX w V D2 i c L (B + 15) e w' := do_w w V h (by rw [hs]; exact hv) hB hc hi hm cv pb nb cb Bf hb
theorem same_self (U : World) (q p : Option Addr) (n c c' : Nat) (L : Nat → List UInt8) (hn : n ≤ 15) (hq : PgR U q n L) (hp : PgR U p n L) : Calls Tryz.prog 27 #[.slice q n c, .slice p n c'] U fun e w' => e = .returned (.bool true) ∧ U.grownBy w' none := same_j U q p n n c c' _ _ hq hp (by omega) true ⟨fun _ => ⟨rfl, fun _ _ => rfl⟩, fun _ => rfl⟩
theorem CoA.drop {w : World} {p : Option Addr} {xs : List Int} (h : CoA w p xs) {b o t : Nat} (hp : p = some ⟨b, o, none⟩) : CoA w (some ⟨b, o + t, none⟩) (xs.drop t) := fun j x hx => by
  rw [List.getElem?_drop] at hx
  obtain ⟨h1, g, o', e, hc⟩ := h _ _ hx
  rw [hp] at e
  obtain ⟨rfl, rfl⟩ : b = g ∧ o = o' := by simpa using e
  exact ⟨h1, b, o + t, rfl, by rw [Nat.add_assoc]; exact hc⟩

set_option maxHeartbeats 32000000 in
set_option maxRecDepth 20000 in
theorem atomic_walk (w : World) (p : Option Addr) (nl cl : Nat) (hm : Nat → Bool) (cv : Nat → Int) (pb : Nat → Option Addr) (nb cb : Nat → Nat) (B : Nat → Nat → UInt8) (hch : ChH w p nl hm cv pb nb cb B) (pa : Option Addr) (as_ : List Int) (ca : Nat) (hat : CoA w pa as_) (pc : Option Addr) (xs : List Int) (xn xc : Nat) (hxn : xn = xs.length) (hxs : CoA w pc xs) (hxc : xn ≤ xc) :
    Calls Tryz.prog 5 #[.slice p nl cl, .slice pa as_.length ca, .slice pc xn xc] w fun e w' => e = .returned (.bool true) ∧ Below w.heap.size w w' := by
  have HAw : Hid (∀ V, Below w.heap.size w V → Calls Tryz.prog 7 #[] V fun e w' => e = .returned (.bool true) ∧ Below w.heap.size w w') := fun V hb => Calls.mono (awake_w V) (fun e w' h => ⟨h.1, hb.trans (h.2.mono hb.size)⟩)
  have HB0 := hideJ (Below.refl w.heap.size w)
  by_cases hbig : 10 < nl
  · have l1 : (10 : Int) < (nl : Int) := by omega
    clear hch hat hxs
    go_enter Tryz.func5, Tryz.ntmps5
    go_wp2_with (go_at_call 7; (with_reducible refine Calls.mono (HAw.out _ HB0.out) ?_); rintro e w1 ⟨rfl, hb⟩; have HB1 := hideJ hb; clear hb)
    go_ret
    exact ⟨rfl, HB1.out⟩
  have l1 : ¬ (10 : Int) < (nl : Int) := by omega
  have HNw0 : Hid (Calls Tryz.prog 8 #[.int .i64 200000] w fun e w' => e = .returned (.pointer (some ⟨w.heap.size + 1, 0, none⟩)) ∧ Wx w w' 0 0) := Calls.mono (new_any w 200000 (by decide)) (fun e w' h => ⟨h.1, _, 0, _, _, Nat.le_refl _, ⟨h.2.2, JI.fresh _ _, grown_below (Nat.le_refl _) h.2.1, rfl⟩, rfl, (by show ([] : List UInt8).length / 256 ≤ 15; decide), vx_zero (.inl ⟨rfl, rfl⟩) 0⟩)
  have HCh := hideJ hch
  have HAt := hideJ hat
  have HXs := hideJ hxs
  have HN := hideJ (show nl ≤ 10 by omega)
  have HXc := hideJ hxc
  have HXn := hideJ hxn
  clear hch hat hxs hbig hxc hxn
  go_enter Tryz.func5, Tryz.ntmps5
  go_wp2_with (go_at_call 8; (with_reducible refine Calls.mono HNw0.out ?_); rintro e w1 ⟨rfl, h1⟩; have HW1 := hideJ h1; clear h1)
  clear l1
  go_loopw [8] (fun iv wr => ∃ i : Nat, i ≤ nl ∧ iv = .int .i64 (i : Int) ∧ Wx w wr (15 * i) (301 * i)) (fun iv _ => nl - (intOf iv).toNat)
  case atStart => exact ⟨0, Nat.zero_le _, rfl, HW1.out⟩
  case round =>
    obtain ⟨i, hi, rfl, hmode⟩ := hrel
    by_cases hlt : i < nl
    · obtain ⟨D, k, c, L, hk, hcl, hfz, hc, hv⟩ := hmode
      have HVx := hideJ hv
      obtain ⟨K, N, E, PP, v⟩ := hv
      have HCl0 := hideJ hcl
      have HKk := hideJ (show k ≤ 5000 by have := HN.out; omega)
      have HK1 := hideJ hk
      have HBb := hideJ (show 15 * i + 15 ≤ 150 by have := HN.out; omega)
      have HFz := hideJ hfz
      have HCc := hideJ hc
      have m1 : (i : Int) < (nl : Int) := by omega
      have m0 : (0 : Int) ≤ (i : Int) := by omega
      have hw1 : IntKind.i64.wrap ((i : Int) + 1) = (i : Int) + 1 := by have := HN.out; rw [IntKind.wrap_i64]; omega
      have HJ := hideJ hlt
      have HMk := hideJ (fun U h => mark_vz w U (D := D) (i := k) h v (by have := HBb.out; omega))
      have HTl := hideJ (fun U h => tell_vz w U (D := D) (i := k) h v (by have := HBb.out; omega) HCc.out)
      obtain ⟨b, o, rfl, hcells⟩ := HCh.out (by omega)
      have HCe := hideJ (fun V (hb : Below w.heap.size w V) => And.intro (below_cell hb (hcells i hlt).1) (And.intro (below_cell hb (hcells i hlt).2.1) (below_cell hb (hcells i hlt).2.2.1)))
      have HBy : Hid (∀ V, Below w.heap.size w V → ByA V (pb i) (nb i) (B i)) := fun V hb hn => by
        obtain ⟨b', o', e', h4⟩ := (hcells i hlt).2.2.2 hn
        exact ⟨b', o', e', fun j hj => below_cell hb (h4 j hj)⟩
      have HDo := hideJ (fun U D2 h hs => do_ws w U (D := D) (D2 := D2) (i := k) h hs HVx.out (by have := HBb.out; omega) HCc.out (by have := HKk.out; omega) (hm i) (cv i) (pb i) (nb i) (cb i) (B i) (HBy.out U h.bel))
      clear hk hcl hfz hc v hcells hlt
      by_cases hia : i < as_.length
      · have a1 : (i : Int) < (as_.length : Int) := by omega
        obtain ⟨ha1, ga, oa, rfl, hca⟩ := HAt.out i as_[i] (List.getElem?_eq_getElem hia)
        have HCa := hideJ (fun V (hb : Below w.heap.size w V) => below_cell hb hca)
        have HFu := hideJ (fun V h => fuse_cl w V (r := 200000) (D := D) (i := k) h as_[i] ha1)
        generalize as_[i] = ai at HCa HFu hca
        generalize as_.length = an at a1 ⊢
        clear hca ha1
        go_upto_region 14 with (first
          | (go_at_call 16; (with_reducible refine Calls.mono (HMk.out _ HCl0.out) ?_); rintro e w2 ⟨rfl, hg⟩; have HC2 := hideJ (HCl0.out.grown hg); clear hg)
          | (go_at_call 23; (with_reducible refine Calls.mono (HTl.out _ HC2.out) ?_); rintro e w3 ⟨⟨q2, c2, rfl, hp2⟩, hg⟩; have HP3 := hideJ hp2; have HC3 := hideJ (HC2.out.grown hg); have hca := HCa.out _ HC3.out.bel; clear hg hp2)
          | (go_at_call 24; (with_reducible refine Calls.mono (HFu.out _ HC3.out) ?_); rintro e w5 ⟨rfl, ⟨D5, h5, hf5, hs5⟩, hr5⟩; have HC5 := hideJ h5; have HS5 := hideJ hs5; have HP5 := hideJ (hr5.1 _ _ _ HP3.out); have hc1 := (HCe.out _ HC5.out.bel).1; have hc2 := (HCe.out _ HC5.out.bel).2.1; have hc3 := (HCe.out _ HC5.out.bel).2.2; clear h5 hf5 hs5 hr5 hca)
          | (go_at_call 25; (with_reducible refine Calls.mono (HDo.out _ _ HC5.out HS5.out) ?_); rintro e w6 ⟨q6, n6, c6, x6, L6, rfl, hn6, hp6, h6⟩; have HN6 := hideJ hn6; have HP6 := hideJ hp6; have HDo6 := hideJ h6; have HQ6 := hideJ (h6.rows.1 _ _ _ HP5.out); clear hn6 hp6 h6 hc1 hc2 hc3))
        rcases HDo6.out.how with ⟨rfl, D7, k7, h7, hk7, hv7, hf7⟩ | ⟨rfl, hnz, D7, k7, h7, hk7⟩
        · obtain ⟨K7, N7, E7, P7, v7⟩ := hv7
          have HV7 : Hid (Vx n6 L6 (15 * i + 15) (seenOf D7 nmD) (seenOf D7 nmJ)) := ⟨K7, N7, E7, P7, v7⟩
          have HC7 := hideJ h7
          have HK7 := hideJ hk7
          have HF7 := hideJ (fun U h => fuse_cl w U (r := 200000) (D := D7) (i := k7) h 0 (by decide))
          have HM7 := hideJ (fun U D8 h hs => mark_vs w U (D := D7) (D2 := D8) (i := k7) h hs v7 (by have := HBb.out; omega))
          have HT7 := hideJ (fun U D8 h hs => tell_vs w U (D := D7) (D2 := D8) (i := k7) h hs v7 (by have := HBb.out; omega) HN6.out)
          clear h7 hk7 v7 hf7
          go_wp2_with (first
            | (go_at_call 24; (with_reducible refine Calls.mono (HF7.out _ HC7.out) ?_); rintro e w8 ⟨rfl, ⟨D8, h8, hf8, hs8⟩, hr8⟩; have HC8 := hideJ h8; have HZ8 := hideJ hf8; have HS8 := hideJ hs8; have HP8 := hideJ (hr8.1 _ _ _ HP6.out); clear h8 hf8 hs8 hr8)
            | (go_at_call 11; (with_reducible refine Calls.mono (down_cl w _ HC8.out) ?_); rintro e w9 ⟨rfl, rfl⟩)
            | (go_at_call 16; (with_reducible refine Calls.mono (HM7.out _ _ HC8.out HS8.out) ?_); rintro e w10 ⟨rfl, hg⟩; have HC10 := hideJ (HC8.out.grown hg); have HP10 := hideJ (HP8.out.grown hg); clear hg)
            | (go_at_call 23; (with_reducible refine Calls.mono (HT7.out _ _ HC10.out HS8.out) ?_); rintro e w11 ⟨⟨q11, c11, rfl, hp11⟩, hg⟩; have HG11 := hideJ hp11; have HC11 := hideJ (HC10.out.grown hg); have HP11 := hideJ (HP10.out.grown hg); clear hg hp11)
            | (go_at_call 27; (with_reducible refine Calls.mono (same_self _ _ _ _ _ _ _ HN6.out HG11.out HP11.out) ?_); rintro e w12 ⟨rfl, hg⟩; have HC12 := hideJ (HC11.out.grown hg); clear hg))
          refine ⟨⟨i + 1, HJ.out, rfl, ?_⟩, ?_⟩
          · exact ⟨D8, k7, n6, L6, by have := HK7.out; have := HK1.out; omega, HC12.out, by rw [HZ8.out]; decide, HN6.out, by rw [HS8.out, show 15 * (i + 1) = 15 * i + 15 by omega]; exact HV7.out⟩
          · simp only [intOf]; have := HJ.out; omega
        · have HC7 := hideJ h7
          have HK7 := hideJ hk7
          have HF7 := hideJ (fun U h => fuse_dw w U (r := 200000) (D := D7) (i := k7) (Q := fun XD XJ => Vx c L (15 * i + 15) XD XJ ∨ Vx n6 L6 (15 * i + 15) XD XJ) h 0 (by decide))
          clear h7 hk7 hnz
          go_upto_region 20 with (first
            | (go_at_call 24; (with_reducible refine Calls.mono (HF7.out _ HC7.out) ?_); rintro e w8 ⟨rfl, ⟨D8, h8⟩, hr8⟩; have HC8 := hideJ h8; have HP8 := hideJ (hr8.1 _ _ _ HP6.out); have HQ8 := hideJ (hr8.1 _ _ _ HQ6.out); clear h8 hr8)
            | (go_at_call 11; (with_reducible refine Calls.mono (down_dw w _ HC8.out) ?_); rintro e w9 ⟨rfl, rfl⟩))
          by_cases hx0 : xn = 0
          · subst hx0
            have HRs := hideJ (fun U h => restart_x w U (r := 200000) (D := D8) (i := k7) (Q := fun XD XJ => Vx c L (15 * i + 15) XD XJ ∨ Vx n6 L6 (15 * i + 15) XD XJ) h (by have := HK7.out; have := HKk.out; omega) pc xc [] (fun j x hx => by simp at hx))
            go_upto_region 25 with (go_at_call 26; (with_reducible refine Calls.mono (HRs.out _ HC8.out) ?_); rintro e w9 ⟨rfl, D9, h9, hf9, hq9, hr9⟩; have HC9 := hideJ h9; have HZ9 := hideJ hf9; have HQ9 := hideJ hq9; have HP9 := hideJ (hr9.1 _ _ _ HP8.out); have HR9 := hideJ (hr9.1 _ _ _ HQ8.out); clear h9 hf9 hq9 hr9)
            rcases HQ9.out with hq | hq
            · obtain ⟨K9, N9, E9, P9, v9⟩ := hq
              have HV9 : Hid (Vx c L (15 * i + 15) (seenOf D9 nmD) (seenOf D9 nmJ)) := ⟨K9, N9, E9, P9, v9⟩
              have HM9 := hideJ (fun U h => mark_vz w U (D := D9) (i := k7 + 1) h v9 (by have := HBb.out; omega))
              have HT9 := hideJ (fun U h => tell_vz w U (D := D9) (i := k7 + 1) h v9 (by have := HBb.out; omega) HCc.out)
              clear v9 HQ9
              go_upto_region 27 with (first
                | (go_at_call 16; (with_reducible refine Calls.mono (HM9.out _ HC9.out) ?_); rintro e w10 ⟨rfl, hg⟩; have HC10 := hideJ (HC9.out.grown hg); have HP10 := hideJ (HP9.out.grown hg); have HQ10 := hideJ (HR9.out.grown hg); clear hg)
                | (go_at_call 23; (with_reducible refine Calls.mono (HT9.out _ HC10.out) ?_); rintro e w11 ⟨⟨q11, c11, rfl, hp11⟩, hg⟩; have HG11 := hideJ hp11; have HC11 := hideJ (HC10.out.grown hg); have HP11 := hideJ (HP10.out.grown hg); have HQ11 := hideJ (HQ10.out.grown hg); clear hg hp11))
              go_wp2_with (go_at_call 27; (with_reducible refine Calls.mono (same_self _ _ _ _ _ _ _ HCc.out HG11.out HQ11.out) ?_); rintro e w12 ⟨rfl, hg⟩; have HC12 := hideJ (HC11.out.grown hg); clear hg)
              refine ⟨⟨i + 1, HJ.out, rfl, ?_⟩, ?_⟩
              · exact ⟨D9, k7 + 1, c, L, by have := HK7.out; have := HK1.out; omega, HC12.out, HZ9.out, HCc.out, by rw [show 15 * (i + 1) = 15 * i + 15 by omega]; exact HV9.out⟩
              · simp only [intOf]; have := HJ.out; omega
            · obtain ⟨K9, N9, E9, P9, v9⟩ := hq
              have HV9 : Hid (Vx n6 L6 (15 * i + 15) (seenOf D9 nmD) (seenOf D9 nmJ)) := ⟨K9, N9, E9, P9, v9⟩
              have HM9 := hideJ (fun U h => mark_vz w U (D := D9) (i := k7 + 1) h v9 (by have := HBb.out; omega))
              have HT9 := hideJ (fun U h => tell_vz w U (D := D9) (i := k7 + 1) h v9 (by have := HBb.out; omega) HN6.out)
              clear v9 HQ9
              go_upto_region 27 with (first
                | (go_at_call 16; (with_reducible refine Calls.mono (HM9.out _ HC9.out) ?_); rintro e w10 ⟨rfl, hg⟩; have HC10 := hideJ (HC9.out.grown hg); have HP10 := hideJ (HP9.out.grown hg); have HQ10 := hideJ (HR9.out.grown hg); clear hg)
                | (go_at_call 23; (with_reducible refine Calls.mono (HT9.out _ HC10.out) ?_); rintro e w11 ⟨⟨q11, c11, rfl, hp11⟩, hg⟩; have HG11 := hideJ hp11; have HC11 := hideJ (HC10.out.grown hg); have HP11 := hideJ (HP10.out.grown hg); have HQ11 := hideJ (HQ10.out.grown hg); clear hg hp11))
              by_cases heq : n6 = c ∧ ∀ j, j < n6 → L6 j = L j
              · have HSm := hideJ (fun U ha hb => same_j U q11 q2 n6 c c11 c2 L6 L ha hb (by have := HN6.out; omega) true ⟨fun _ => heq, fun _ => rfl⟩)
                clear heq
                go_wp2_with (go_at_call 27; (with_reducible refine Calls.mono (HSm.out _ HG11.out HQ11.out) ?_); rintro e w12 ⟨rfl, hg⟩; have HC12 := hideJ (HC11.out.grown hg); clear hg)
                refine ⟨⟨i + 1, HJ.out, rfl, ?_⟩, ?_⟩
                · exact ⟨D9, k7 + 1, n6, L6, by have := HK7.out; have := HK1.out; omega, HC12.out, HZ9.out, HN6.out, by rw [show 15 * (i + 1) = 15 * i + 15 by omega]; exact HV9.out⟩
                · simp only [intOf]; have := HJ.out; omega
              · have HSm := hideJ (fun U ha hb => same_j U q11 q2 n6 c c11 c2 L6 L ha hb (by have := HN6.out; omega) false ⟨fun h => absurd h (by decide), fun h => absurd h heq⟩)
                clear heq
                go_wp2_with (first
                  | (go_at_call 27; (with_reducible refine Calls.mono (HSm.out _ HG11.out HQ11.out) ?_); rintro e w13 ⟨rfl, hg⟩; have HC13 := hideJ (HC11.out.grown hg); have HG13 := hideJ (HG11.out.grown hg); have HP13 := hideJ (HP11.out.grown hg); clear hg HQ11)
                  | (go_at_call 27; (with_reducible refine Calls.mono (same_self _ _ _ _ _ _ _ HN6.out HG13.out HP13.out) ?_); rintro e w12 ⟨rfl, hg⟩; have HC12 := hideJ (HC13.out.grown hg); clear hg))
                refine ⟨⟨i + 1, HJ.out, rfl, ?_⟩, ?_⟩
                · exact ⟨D9, k7 + 1, n6, L6, by have := HK7.out; have := HK1.out; omega, HC12.out, HZ9.out, HN6.out, by rw [show 15 * (i + 1) = 15 * i + 15 by omega]; exact HV9.out⟩
                · simp only [intOf]; have := HJ.out; omega
          · have x1 : (0 : Int) < (xn : Int) := by omega
            obtain ⟨t, ht⟩ : ∃ t, t = i % xn := ⟨_, rfl⟩
            have htl : t < xn := by rw [ht]; exact Nat.mod_lt _ (by omega)
            have hti : t ≤ i := by rw [ht]; exact Nat.mod_le _ _
            have hrm : (i : Int).tmod (xn : Int) = (t : Int) := by rw [Int.tmod_eq_emod_of_nonneg m0, ht]; rfl
            have x3 : ¬ (xn : Int) = 0 := by omega
            have x2 : ((xn : Int) == 0) = false := by simpa using hx0
            have hwt : IntKind.i64.wrap (t : Int) = (t : Int) := by have := HN.out; have := HJ.out; rw [IntKind.wrap_i64]; omega
            have z0 : (0 : Int) ≤ (t : Int) := by omega
            have z1 : (t : Int) ≤ (xn : Int) := by omega
            have z4 : (xn : Int) ≤ (xc : Int) := by have := HXc.out; omega
            obtain ⟨-, gx, ox, rfl, -⟩ := HXs.out 0 (xs[0]'(by have := HXn.out; omega)) (List.getElem?_eq_getElem (by have := HXn.out; omega))
            have HRs := hideJ (fun U h => restart_x w U (r := 200000) (D := D8) (i := k7) (Q := fun XD XJ => Vx c L (15 * i + 15) XD XJ ∨ Vx n6 L6 (15 * i + 15) XD XJ) h (by have := HK7.out; have := HKk.out; omega) (some ⟨gx, ox + t, none⟩) (xc - t) (xs.drop t) (HXs.out.drop rfl))
            rw [List.length_drop, ← HXn.out] at HRs
            clear ht hx0 hti
            go_upto_region 25 with (go_at_call 26; (with_reducible refine Calls.mono (HRs.out _ HC8.out) ?_); rintro e w9 ⟨rfl, D9, h9, hf9, hq9, hr9⟩; have HC9 := hideJ h9; have HZ9 := hideJ hf9; have HQ9 := hideJ hq9; have HP9 := hideJ (hr9.1 _ _ _ HP8.out); have HR9 := hideJ (hr9.1 _ _ _ HQ8.out); clear h9 hf9 hq9 hr9)
            rcases HQ9.out with hq | hq
            · obtain ⟨K9, N9, E9, P9, v9⟩ := hq
              have HV9 : Hid (Vx c L (15 * i + 15) (seenOf D9 nmD) (seenOf D9 nmJ)) := ⟨K9, N9, E9, P9, v9⟩
              have HM9 := hideJ (fun U h => mark_vz w U (D := D9) (i := k7 + 1) h v9 (by have := HBb.out; omega))
              have HT9 := hideJ (fun U h => tell_vz w U (D := D9) (i := k7 + 1) h v9 (by have := HBb.out; omega) HCc.out)
              clear v9 HQ9
              go_upto_region 27 with (first
                | (go_at_call 16; (with_reducible refine Calls.mono (HM9.out _ HC9.out) ?_); rintro e w10 ⟨rfl, hg⟩; have HC10 := hideJ (HC9.out.grown hg); have HP10 := hideJ (HP9.out.grown hg); have HQ10 := hideJ (HR9.out.grown hg); clear hg)
                | (go_at_call 23; (with_reducible refine Calls.mono (HT9.out _ HC10.out) ?_); rintro e w11 ⟨⟨q11, c11, rfl, hp11⟩, hg⟩; have HG11 := hideJ hp11; have HC11 := hideJ (HC10.out.grown hg); have HP11 := hideJ (HP10.out.grown hg); have HQ11 := hideJ (HQ10.out.grown hg); clear hg hp11))
              go_wp2_with (go_at_call 27; (with_reducible refine Calls.mono (same_self _ _ _ _ _ _ _ HCc.out HG11.out HQ11.out) ?_); rintro e w12 ⟨rfl, hg⟩; have HC12 := hideJ (HC11.out.grown hg); clear hg)
              refine ⟨⟨i + 1, HJ.out, rfl, ?_⟩, ?_⟩
              · exact ⟨D9, k7 + 1, c, L, by have := HK7.out; have := HK1.out; omega, HC12.out, HZ9.out, HCc.out, by rw [show 15 * (i + 1) = 15 * i + 15 by omega]; exact HV9.out⟩
              · simp only [intOf]; have := HJ.out; omega
            · obtain ⟨K9, N9, E9, P9, v9⟩ := hq
              have HV9 : Hid (Vx n6 L6 (15 * i + 15) (seenOf D9 nmD) (seenOf D9 nmJ)) := ⟨K9, N9, E9, P9, v9⟩
              have HM9 := hideJ (fun U h => mark_vz w U (D := D9) (i := k7 + 1) h v9 (by have := HBb.out; omega))
              have HT9 := hideJ (fun U h => tell_vz w U (D := D9) (i := k7 + 1) h v9 (by have := HBb.out; omega) HN6.out)
              clear v9 HQ9
              go_upto_region 27 with (first
                | (go_at_call 16; (with_reducible refine Calls.mono (HM9.out _ HC9.out) ?_); rintro e w10 ⟨rfl, hg⟩; have HC10 := hideJ (HC9.out.grown hg); have HP10 := hideJ (HP9.out.grown hg); have HQ10 := hideJ (HR9.out.grown hg); clear hg)
                | (go_at_call 23; (with_reducible refine Calls.mono (HT9.out _ HC10.out) ?_); rintro e w11 ⟨⟨q11, c11, rfl, hp11⟩, hg⟩; have HG11 := hideJ hp11; have HC11 := hideJ (HC10.out.grown hg); have HP11 := hideJ (HP10.out.grown hg); have HQ11 := hideJ (HQ10.out.grown hg); clear hg hp11))
              by_cases heq : n6 = c ∧ ∀ j, j < n6 → L6 j = L j
              · have HSm := hideJ (fun U ha hb => same_j U q11 q2 n6 c c11 c2 L6 L ha hb (by have := HN6.out; omega) true ⟨fun _ => heq, fun _ => rfl⟩)
                clear heq
                go_wp2_with (go_at_call 27; (with_reducible refine Calls.mono (HSm.out _ HG11.out HQ11.out) ?_); rintro e w12 ⟨rfl, hg⟩; have HC12 := hideJ (HC11.out.grown hg); clear hg)
                refine ⟨⟨i + 1, HJ.out, rfl, ?_⟩, ?_⟩
                · exact ⟨D9, k7 + 1, n6, L6, by have := HK7.out; have := HK1.out; omega, HC12.out, HZ9.out, HN6.out, by rw [show 15 * (i + 1) = 15 * i + 15 by omega]; exact HV9.out⟩
                · simp only [intOf]; have := HJ.out; omega
              · have HSm := hideJ (fun U ha hb => same_j U q11 q2 n6 c c11 c2 L6 L ha hb (by have := HN6.out; omega) false ⟨fun h => absurd h (by decide), fun h => absurd h heq⟩)
                clear heq
                go_wp2_with (first
                  | (go_at_call 27; (with_reducible refine Calls.mono (HSm.out _ HG11.out HQ11.out) ?_); rintro e w13 ⟨rfl, hg⟩; have HC13 := hideJ (HC11.out.grown hg); have HG13 := hideJ (HG11.out.grown hg); have HP13 := hideJ (HP11.out.grown hg); clear hg HQ11)
                  | (go_at_call 27; (with_reducible refine Calls.mono (same_self _ _ _ _ _ _ _ HN6.out HG13.out HP13.out) ?_); rintro e w12 ⟨rfl, hg⟩; have HC12 := hideJ (HC13.out.grown hg); clear hg))
                refine ⟨⟨i + 1, HJ.out, rfl, ?_⟩, ?_⟩
                · exact ⟨D9, k7 + 1, n6, L6, by have := HK7.out; have := HK1.out; omega, HC12.out, HZ9.out, HN6.out, by rw [show 15 * (i + 1) = 15 * i + 15 by omega]; exact HV9.out⟩
                · simp only [intOf]; have := HJ.out; omega
      · have a1 : ¬ (i : Int) < (as_.length : Int) := by omega
        generalize as_.length = an at a1 ⊢
        go_upto_region 14 with (first
          | (go_at_call 16; (with_reducible refine Calls.mono (HMk.out _ HCl0.out) ?_); rintro e w2 ⟨rfl, hg⟩; have HC2 := hideJ (HCl0.out.grown hg); clear hg)
          | (go_at_call 23; (with_reducible refine Calls.mono (HTl.out _ HC2.out) ?_); rintro e w3 ⟨⟨q2, c2, rfl, hp2⟩, hg⟩; have HP3 := hideJ hp2; have HC3 := hideJ (HC2.out.grown hg); have hc1 := (HCe.out _ HC3.out.bel).1; have hc2 := (HCe.out _ HC3.out.bel).2.1; have hc3 := (HCe.out _ HC3.out.bel).2.2; clear hg hp2)
          | (go_at_call 25; (with_reducible refine Calls.mono (HDo.out _ _ HC3.out rfl) ?_); rintro e w6 ⟨q6, n6, c6, x6, L6, rfl, hn6, hp6, h6⟩; have HN6 := hideJ hn6; have HP6 := hideJ hp6; have HDo6 := hideJ h6; have HQ6 := hideJ (h6.rows.1 _ _ _ HP3.out); clear hn6 hp6 h6 hc1 hc2 hc3))
        rcases HDo6.out.how with ⟨rfl, D7, k7, h7, hk7, hv7, hf7⟩ | ⟨rfl, hnz, D7, k7, h7, hk7⟩
        · obtain ⟨K7, N7, E7, P7, v7⟩ := hv7
          have HV7 : Hid (Vx n6 L6 (15 * i + 15) (seenOf D7 nmD) (seenOf D7 nmJ)) := ⟨K7, N7, E7, P7, v7⟩
          have HC7 := hideJ h7
          have HK7 := hideJ hk7
          have HF7 := hideJ (fun U h => fuse_cl w U (r := 200000) (D := D7) (i := k7) h 0 (by decide))
          have HM7 := hideJ (fun U D8 h hs => mark_vs w U (D := D7) (D2 := D8) (i := k7) h hs v7 (by have := HBb.out; omega))
          have HT7 := hideJ (fun U D8 h hs => tell_vs w U (D := D7) (D2 := D8) (i := k7) h hs v7 (by have := HBb.out; omega) HN6.out)
          clear h7 hk7 v7 hf7
          go_wp2_with (first
            | (go_at_call 24; (with_reducible refine Calls.mono (HF7.out _ HC7.out) ?_); rintro e w8 ⟨rfl, ⟨D8, h8, hf8, hs8⟩, hr8⟩; have HC8 := hideJ h8; have HZ8 := hideJ hf8; have HS8 := hideJ hs8; have HP8 := hideJ (hr8.1 _ _ _ HP6.out); clear h8 hf8 hs8 hr8)
            | (go_at_call 11; (with_reducible refine Calls.mono (down_cl w _ HC8.out) ?_); rintro e w9 ⟨rfl, rfl⟩)
            | (go_at_call 16; (with_reducible refine Calls.mono (HM7.out _ _ HC8.out HS8.out) ?_); rintro e w10 ⟨rfl, hg⟩; have HC10 := hideJ (HC8.out.grown hg); have HP10 := hideJ (HP8.out.grown hg); clear hg)
            | (go_at_call 23; (with_reducible refine Calls.mono (HT7.out _ _ HC10.out HS8.out) ?_); rintro e w11 ⟨⟨q11, c11, rfl, hp11⟩, hg⟩; have HG11 := hideJ hp11; have HC11 := hideJ (HC10.out.grown hg); have HP11 := hideJ (HP10.out.grown hg); clear hg hp11)
            | (go_at_call 27; (with_reducible refine Calls.mono (same_self _ _ _ _ _ _ _ HN6.out HG11.out HP11.out) ?_); rintro e w12 ⟨rfl, hg⟩; have HC12 := hideJ (HC11.out.grown hg); clear hg))
          refine ⟨⟨i + 1, HJ.out, rfl, ?_⟩, ?_⟩
          · exact ⟨D8, k7, n6, L6, by have := HK7.out; have := HK1.out; omega, HC12.out, by rw [HZ8.out]; decide, HN6.out, by rw [HS8.out, show 15 * (i + 1) = 15 * i + 15 by omega]; exact HV7.out⟩
          · simp only [intOf]; have := HJ.out; omega
        · exact absurd HFz.out hnz
    · obtain rfl : i = nl := by omega
      have HBl : Hid (Below w.heap.size w wr) := by
        obtain ⟨D, k, c, L, _, hcl, _⟩ := hmode
        exact hcl.bel
      clear hmode
      go_wp2_with (go_at_call 7; (with_reducible refine Calls.mono (HAw.out _ HBl.out) ?_); rintro e w9 ⟨rfl, hb⟩; have HB9 := hideJ hb; clear hb)
      go_ret
      exact ⟨rfl, HB9.out⟩
end Go.Proofs.YteocmhbllckpjaaGreat

namespace Go.Proofs.YteocmhbllckpjaaGreat
open Go.ChangeShapes Go.WideShapes Go.ChangeAt Go.RowKit
open Go.ChangeMaps (setBlock)
set_option linter.unusedVariables false

/-- Blocks that are not the disk's stay. -/
def Keeps (V w' : World) : Prop := ∀ g (cur : Array Value) t, OkT t → Blk V g cur t → Blk w' g cur t
theorem Keeps.grown {V w' : World} (h : V.grownBy w' none) : Keeps V w' := fun _ _ _ _ hb => Blk.grown hb h
theorem Keeps.moved {V w' : World} {base b : Nat} {D D' : DS} {who who' : Nat → Nat} (R : Rep V base b D who) (h : RM V D w' base b D' who') : Keeps V w' := fun _ _ _ ht hb => h.blk R hb ht
theorem Keeps.trans {A B C : World} (h : Keeps A B) (k : Keeps B C) : Keeps A C := fun g c t ht hb => k g c t ht (h g c t ht hb)
theorem PgR.keeps {w w' : World} {p : Option Addr} {n : Nat} {L : Nat → List UInt8} (h : PgR w p n L) (hk : Keeps w w') : PgR w' p n L := fun h0 => by
  obtain ⟨g, cur, e, hb, hc⟩ := h h0
  have hb' := hk _ _ _ (by unfold OkT; decide) hb
  exact ⟨g, cur, e, hb', fun k hk => ⟨(hc k hk).1, range_blk (hc k hk).2 hb hb'⟩⟩
theorem PgA.keeps {w w' : World} {p : Option Addr} {n : Nat} {N : Nat → Int} {L : Nat → List UInt8} (h : PgA w p n N L) (hk : Keeps w w') : PgA w' p n N L := fun h0 => by
  obtain ⟨g, cur, e, hb, hc⟩ := h h0
  have hb' := hk _ _ _ (by unfold OkT; decide) hb
  exact ⟨g, cur, e, hb', fun k hk => ⟨(hc k hk).1, range_blk (hc k hk).2 hb hb'⟩⟩
theorem IntA.keeps {w w' : World} {q : Option Addr} {m : Nat} {T : Nat → Nat} (h : IntA w q m T) (hk : Keeps w w') : IntA w' q m T := fun h0 => by
  obtain ⟨g, cur, e, hb, hc⟩ := h h0
  exact ⟨g, cur, e, hk _ _ _ (by unfold OkT; decide) hb, hc⟩
/-- A log that goes on where another ends. -/
structure Agr (K : Nat) (N E : Nat → Nat) (P : Nat → List UInt8) (K' : Nat) (N' E' : Nat → Nat) (P' : Nat → List UInt8) : Prop where
  le : K ≤ K'
  n : ∀ j, j < K → N' j = N j
  e : ∀ j, j < K → E' j = E j
  p : ∀ j, j < K → P' j = P j
theorem Agr.isM {K : Nat} {N E : Nat → Nat} {P : Nat → List UInt8} {K' : Nat} {N' E' : Nat → Nat} {P' : Nat → List UInt8} (h : Agr K N E P K' N' E' P') {M : Nat} (hM : IsM K E M) : IsM K' E' M := by
  rcases Nat.eq_zero_or_pos M with rfl | h0
  · exact .inl rfl
  · rcases hM with rfl | ⟨h1, h2⟩
    · omega
    · exact .inr ⟨Nat.le_trans h1 h.le, by rw [h.e (M - 1) (by omega)]; exact h2⟩
theorem Agr.cnt {K : Nat} {N E : Nat → Nat} {P : Nat → List UInt8} {K' : Nat} {N' E' : Nat → Nat} {P' : Nat → List UInt8} (h : Agr K N E P K' N' E' P') {M : Nat} (hM : M ≤ K) (db : List UInt8) : cntL db M E' = cntL db M E := by
  unfold cntL
  split
  · rfl
  · rw [h.e (M - 1) (by omega)]
theorem Agr.at {K : Nat} {N E : Nat → Nat} {P : Nat → List UInt8} {K' : Nat} {N' E' : Nat → Nat} {P' : Nat → List UInt8} (h : Agr K N E P K' N' E' P') (db : List UInt8) (p : Nat) : ∀ M, M ≤ K → pgAt db N' P' M p = pgAt db N P M p
  | 0, _ => rfl
  | M + 1, hM => by
    have ih := Agr.at h db p M (by omega)
    unfold pgAt at ih ⊢
    rw [List.range_succ, foldP_snoc, foldP_snoc, h.n M (by omega), h.p M (by omega), ih]
theorem Agr.iv {K : Nat} {N E : Nat → Nat} {P : Nat → List UInt8} {K' : Nat} {N' E' : Nat → Nat} {P' : Nat → List UInt8} (h : Agr K N E P K' N' E' P') {M : Nat} (hM : M ≤ K) {db : List UInt8} (hi : Iv db M N E) : Iv db M N' E' := fun p p1 p2 hn => by
  rw [h.cnt hM] at p2
  have := hi p p1 p2 (fun x hx e => hn x hx (by rw [h.n x (by omega)]; exact e))
  exact ⟨this.1, fun j hj he => by rw [h.e j (by omega)] at he ⊢; exact this.2 j hj he⟩
theorem agr_ext (K : Nat) (N E : Nat → Nat) (P : Nat → List UInt8) (m : Nat) (Np Ep : Nat → Nat) (Lp : Nat → List UInt8) : Agr K N E P (K + m) (ext K N Np) (ext K E Ep) (ext K P Lp) := ⟨by omega, fun j hj => ext_lt hj, fun j hj => ext_lt hj, fun j hj => ext_lt hj⟩
theorem fE_one (m c : Nat) (hm : 1 ≤ m) : ((List.range m).filter (fun x => decide (fE m c x ≠ 0))).length = 1 := by
  obtain ⟨k, rfl⟩ : ∃ k, m = k + 1 := ⟨m - 1, by omega⟩
  rw [List.range_succ, List.filter_append, List.filter_eq_nil_iff.2 (fun x hx => by have := List.mem_range.1 hx; unfold fE; rw [if_pos (by omega)]; simp)]
  have : fE (k + 1) c k ≠ 0 := by unfold fE; rw [if_neg (by omega)]; omega
  simp [this]
theorem mkN_ext (K m c : Nat) (E : Nat → Nat) (hm : 1 ≤ m) : (mkN (ext K E (fE m c)) (K + m)).length = (mkN E K).length + 1 := by
  unfold mkN
  simp only [List.length_cons, List.length_map]
  rw [List.range_add, List.filter_append, List.length_append, List.filter_map, List.length_map]
  have h1 : (List.range K).filter (fun x => decide (ext K E (fE m c) x ≠ 0)) = (List.range K).filter (fun x => decide (E x ≠ 0)) := List.filter_congr (fun x hx => by rw [ext_lt (List.mem_range.1 hx)])
  have h2 : (List.range m).filter ((fun x => decide (ext K E (fE m c) x ≠ 0)) ∘ fun x => K + x) = (List.range m).filter (fun x => decide (fE m c x ≠ 0)) := List.filter_congr (fun x hx => by show decide (ext K E (fE m c) (K + x) ≠ 0) = _; rw [ext_ge])
  rw [h1, h2, fE_one m c hm]
/-- What a database and its log tell at all marks. -/
structure Vs (n B : Nat) (XD XJ : List UInt8) (K : Nat) (N E : Nat → Nat) (P : Nat → List UInt8) : Prop where
  vz : Vz (cntL XD K E) (fun k => pgAt XD N P K (k + 1)) B XD XJ K N E P
  ivs : ∀ M, IsM K E M → Iv XD M N E
  mks : (mkN E K).length = n + 1
  few : ∀ M, IsM K E M → cntL XD M E ≤ 15
theorem Vs.zero : Vs 0 0 [] [] 0 n0 e0 p0 := by
  refine ⟨?_, fun M hM => ?_, rfl, fun M hM => ?_⟩
  · exact ⟨Lgx.zero (.inl ⟨rfl, rfl⟩), Nat.zero_le _, fra0, .inl rfl, iv_zero _ _ _, fun j hj => by omega, rfl, fun k hk => rfl⟩
  · obtain rfl : M = 0 := by have := hM.le; omega
    exact iv_zero _ _ _
  · obtain rfl : M = 0 := by have := hM.le; omega
    show 0 ≤ 15
    omega
theorem vs_commit {a B : Nat} {XD XJ XJ' : List UInt8} {K : Nat} {N E : Nat → Nat} {P : Nat → List UInt8} (h : Vs a B XD XJ K N E P) {n m count : Nat} {Np : Nat → Nat} {Lp : Nat → List UInt8} (hm : m = max n 1) (hn : n ≤ 15) (hcount : count ≤ 15) (hN : Rise count n Np) (hall : ∀ p, cntL XD K E < p → p ≤ count → ∃ j, j < n ∧ Np j = p) (hLl : ∀ j, j < n → (Lp j).length = 256) (hl : Lgx XJ' (K + m) (ext K N (fN n Np)) (ext K E (fE m count)) (ext K P (fP n Lp))) :
    Vs (a + 1) (B + 15) XD XJ' (K + m) (ext K N (fN n Np)) (ext K E (fE m count)) (ext K P (fP n Lp)) := by
  have hv := vz_commit h.vz hm hn hcount hN hall hLl hl
  have hA := agr_ext K N E P m (fN n Np) (fE m count) (fP n Lp)
  have hE0 : ∀ M, K < M → M ≤ K + m → ext K E (fE m count) (M - 1) ≠ 0 → M = K + m := fun M h1 h2 h3 => by
    obtain ⟨j, hj⟩ : ∃ j, M - 1 = K + j := ⟨M - 1 - K, by omega⟩
    rw [hj, ext_ge] at h3
    unfold fE at h3
    split at h3
    · exact absurd rfl h3
    · omega
  have hsplit : ∀ M, IsM (K + m) (ext K E (fE m count)) M → (M ≤ K ∧ IsM K E M) ∨ M = K + m := fun M hM => by
    rcases hM with rfl | ⟨h1, h2⟩
    · exact .inl ⟨Nat.zero_le _, .inl rfl⟩
    · rcases Nat.lt_or_ge K M with c | c
      · exact .inr (hE0 M c h1 h2)
      · rcases Nat.eq_zero_or_pos M with rfl | c0
        · exact .inl ⟨Nat.zero_le _, .inl rfl⟩
        · exact .inl ⟨c, .inr ⟨c, by rw [ext_lt (by omega)] at h2; exact h2⟩⟩
  refine ⟨{ hv with cnt := rfl, pgs := fun k hk => rfl }, fun M hM => ?_, by rw [mkN_ext _ _ _ _ (by omega), h.mks], fun M hM => ?_⟩
  · rcases hsplit M hM with ⟨c, hM'⟩ | rfl
    · exact hA.iv c (h.ivs M hM')
    · exact hv.iv
  · rcases hsplit M hM with ⟨c, hM'⟩ | rfl
    · rw [hA.cnt c]; exact h.few M hM'
    · rw [hv.cnt]; exact hcount
/-- A commit without a crash. -/
def DoS (w V : World) (D : DS) (i n B K : Nat) (N E : Nat → Nat) (P : Nat → List UInt8) (w' : World) : Prop := Keeps V w' ∧ ∃ D' i' K' N' E' P', Cl w w' 200000 D' i' ∧ i' ≤ i + 300 ∧ D'.fuse = 0 ∧ seenOf D' nmD = seenOf D nmD ∧ Vs (n + 1) (B + 15) (seenOf D' nmD) (seenOf D' nmJ) K' N' E' P' ∧ Agr K N E P K' N' E' P' ∧ K < K'
theorem com_vs (w V : World) {D : DS} {i : Nat} (h : Cl w V 200000 D i) (hf : D.fuse = 0) {a B K : Nat} {N E : Nat → Nat} {P : Nat → List UInt8} (hv : Vs a B (seenOf D nmD) (seenOf D nmJ) K N E P) (hB : B + 15 ≤ 180) (hi : i ≤ 10000) (count : Nat) (hcount : count ≤ 15) (nb : Nat) (Bf : Nat → UInt8) (c : Nat) (hc : cntL (seenOf D nmD) K E = c) (p : Option Addr) (n cap : Nat) (hn : n = (selL c nb Bf count).length) (hp : PgA V p n (fun j => (selN c nb Bf count j : Int)) (selP c nb Bf count)) :
    Calls Tryz.prog 20 #[.pointer (some ⟨w.heap.size + 1, 0, none⟩), .int .i64 (count : Int), .slice p n cap] V fun e w' => ∃ y : Int, e = .returned (.tuple #[.int .i64 y, .int .i64 0]) ∧ DoS w V D i a B K N E P w' := by
  obtain ⟨who, R⟩ := h.rep
  have hrise : Rise count n (selN c nb Bf count) := by rw [hn]; exact selL_rise c nb Bf count
  have hall : ∀ p, c < p → p ≤ count → ∃ j, j < n ∧ selN c nb Bf count j = p := fun p h1 h2 => by rw [hn]; exact selL_all h1 h2
  have hn15 : n ≤ 15 := by rw [hn]; exact Nat.le_trans (selL_len _ _ _ _) hcount
  have hlen := h.ji.len nmD
  obtain ⟨m, hm⟩ : ∃ m, m = max n 1 := ⟨_, rfl⟩
  have hfew := hv.vz.few
  have hc15 : c ≤ 15 := by rw [← hc]; exact hv.few K (by rcases hv.vz.end_ with e | e; exact .inl e; exact .inr ⟨Nat.le_refl _, e⟩)
  refine (commitW_x V _ _ D who R h.ji h.clean hv.vz.lg hv.vz.fra hv.vz.end_ c count hc.symm (by omega) (by omega) p n cap m hm (selN c nb Bf count) (selP c nb Bf count) hp (by omega) hi (by omega) (by omega) (by rw [hn]; exact selL_may (by omega)) (fun j hj => hrise.low j hj) (fun j _ => fullL_length _)).mono ?_
  rintro e w' (⟨rfl, D', who', i', hm', hj, hi', hch, hl', hd', hf'⟩ | ⟨rfl, hnz, _⟩)
  · have hvs := vs_commit hv hm hn15 hcount hrise (by rw [hc]; exact hall) (fun j _ => fullL_length _) hl'
    have hcl : Cl w w' 200000 D' i' := ⟨⟨who', hm'.rep⟩, hj, h.bel.trans (hm'.mv.below R), hch⟩
    exact ⟨_, rfl, Keeps.moved R hm', D', i', K + m, _, _, _, hcl, by omega, hf' hf, hd', by rw [hd']; exact hvs, agr_ext _ _ _ _ _ _ _ _, by omega⟩
  · exact absurd hf hnz
theorem end_isM {K : Nat} {E : Nat → Nat} (h : K = 0 ∨ E (K - 1) ≠ 0) : IsM K E K := by
  rcases h with e | e
  · exact .inl e
  · exact .inr ⟨Nat.le_refl _, e⟩
/-- Tell at any mark. -/
theorem tell_vm (w V : World) {D : DS} {i : Nat} (h : Cl w V 200000 D i) {a B K : Nat} {N E : Nat → Nat} {P : Nat → List UInt8} (hv : Vs a B (seenOf D nmD) (seenOf D nmJ) K N E P) (hB : B ≤ 180) (M : Nat) (hM : IsM K E M) : Calls Tryz.prog 23 #[.pointer (some ⟨w.heap.size + 1, 0, none⟩), .int .i64 (M : Int)] V fun e w' => (∃ q cp, e = .returned (.slice q (cntL (seenOf D nmD) M E) cp) ∧ PgR w' q (cntL (seenOf D nmD) M E) (fun k => pgAt (seenOf D nmD) N P M (k + 1))) ∧ V.grownBy w' none := by
  obtain ⟨who, R⟩ := h.rep
  have hfew := hv.vz.few
  have h15 := hv.few M hM
  exact tell_w V _ _ D who R h.ji (hv.vz.lg.lgf (by omega) hv.vz.fra hv.vz.end_) M hM _ rfl (by omega)
theorem vz_home {c : Nat} {L : Nat → List UInt8} {B : Nat} {XD XJ YJ new : List UInt8} {K : Nat} {N E : Nat → Nat} {P : Nat → List UInt8} (h : Vz c L B XD XJ K N E P) (hj : Hk YJ 0) (hc : Chk XD new c K K c N P) : Vz c L B new YJ 0 n0 e0 p0 := by
  obtain ⟨n, T, hH, hD⟩ := hc.ex
  have hlen := hD.len
  refine ⟨Lgx.zero hj, Nat.zero_le _, fra0, .inl rfl, iv_zero _ _ _, fun j hj => by omega, ?_, fun k hk => ?_⟩
  · unfold cntL
    rw [if_pos rfl]
    omega
  · show pgZ new (k + 1) = L k
    rw [← h.pgs k hk]
    unfold pgZ
    rw [if_pos (by omega)]
    rcases hD.pgs (k + 1) (by omega) (by omega) with ⟨j, h1, h2, h3⟩ | ⟨h1, h2⟩
    · rw [h3]
      unfold homP pgAt
      rw [h2]
      refine foldP_cov _ _ ?_
      obtain ⟨_, _, x, hx, e⟩ := hH.low j h1
      exact ⟨x, List.mem_range.2 hx, by omega⟩
    · have hn : ∀ x, x < K → N x ≠ k + 1 := fun x hx e => by
        obtain ⟨j, hj, e2⟩ := hH.all (k + 1) (by omega) (by omega) ⟨x, hx, e⟩
        exact h1 j hj e2
      have hiv := (h.iv (k + 1) (by omega) (by rw [h.cnt]; omega) hn).1
      unfold pgAt
      rw [foldP_none _ (fun x hx => hn x (List.mem_range.1 hx)), h2 hiv]
      unfold pgZ
      rw [if_pos hiv]
/-- Behind a checkpoint at a mark that is not the last. -/
structure Vt (M c : Nat) (L : Nat → List UInt8) (B : Nat) (XD YD YJ : List UInt8) (K : Nat) (N E : Nat → Nat) (P : Nat → List UInt8) : Prop where
  vz : Vz c L B YD YJ K N E P
  cnt : ∀ M', IsM K E M' → M ≤ M' → cntL YD M' E = cntL XD M' E
  pgs : ∀ M', IsM K E M' → M ≤ M' → ∀ k, k < cntL XD M' E → pgAt YD N P M' (k + 1) = pgAt XD N P M' (k + 1)
  few : ∀ M', IsM K E M' → cntL XD M' E ≤ 15
theorem chk_all {a B : Nat} {XD XJ YD YJ : List UInt8} {K : Nat} {N E : Nat → Nat} {P : Nat → List UInt8} (h : Vs a B XD XJ K N E P) {M : Nat} (hM : IsM K E M) (hM1 : 1 ≤ M) (hMK : M ≠ K) (hl : Lgx YJ K N E P) (hc : Chk XD YD (cntL XD K E) K M (cntL XD M E) N P) : Vt M (cntL XD K E) (fun k => pgAt XD N P K (k + 1)) B XD YD YJ K N E P := by
  have hle := hM.le
  have hEM : E (M - 1) ≠ 0 := by
    rcases hM with e | e
    · omega
    · exact e.2
  have hI : ∀ M', IsM K E M' → M ≤ M' → Intact XD (cntL XD M' E) (tlM N M') YD := fun M' hM' hl' p p1 p2 p3 => by
    have hn := not_tlM p3
    obtain ⟨i1, i2⟩ := h.ivs M' hM' p p1 p2 hn
    have i3 := i2 (M - 1) (by omega) hEM
    have hcM : cntL XD M E = E (M - 1) - 1 := by unfold cntL; rw [if_neg (by omega)]
    obtain ⟨n, T, hH, hD⟩ := hc.ex
    have hlen := hD.len
    refine ⟨by omega, ?_⟩
    rcases hD.pgs p p1 (by omega) with ⟨j, h1, h2, h3⟩ | ⟨h1, h2⟩
    · obtain ⟨_, _, x, hx, e⟩ := hH.low j h1
      exact absurd (by omega) (hn x (by omega))
    · exact h2 i1
  refine ⟨vz_intact h.vz (by omega) hl hc.intact, fun M' hM' hl' => cntL_pos (by omega), fun M' hM' hl' k hk => at_intact (hI M' hM' hl') (h.ivs M' hM') (by omega) (by omega), h.few⟩
theorem cp_vs (w V : World) {D : DS} {i : Nat} (h : Cl w V 200000 D i) (hf : D.fuse = 0) {a B K : Nat} {N E : Nat → Nat} {P : Nat → List UInt8} (hv : Vs a B (seenOf D nmD) (seenOf D nmJ) K N E P) (hB : B ≤ 180) (hi : i ≤ 10000) (M : Nat) (hM : IsM K E M) (hMK : M < K) :
    Calls Tryz.prog 22 #[.pointer (some ⟨w.heap.size + 1, 0, none⟩), .int .i64 (M : Int)] V fun e w' => e = .returned (.int .i64 0) ∧ Keeps V w' ∧ ∃ D' i', Cl w w' 200000 D' i' ∧ i' ≤ i + 300 ∧ D'.fuse = 0 ∧ Vt M (cntL (seenOf D nmD) K E) (fun k => pgAt (seenOf D nmD) N P K (k + 1)) B (seenOf D nmD) (seenOf D' nmD) (seenOf D' nmJ) K N E P := by
  obtain ⟨who, R⟩ := h.rep
  have hfew := hv.vz.few
  rcases Nat.eq_zero_or_pos M with rfl | hM1
  · refine (checkpoint_zero V _ _ D who R h.ji (hv.vz.lg.lgf (by omega) hv.vz.fra hv.vz.end_)).mono ?_
    rintro e w' ⟨rfl, hg⟩
    exact ⟨rfl, Keeps.grown hg, D, i, h.grown hg, by omega, hf, hv.vz, fun _ _ _ => rfl, fun _ _ _ _ _ => rfl, hv.few⟩
  · refine (checkpoint_x V _ _ D who R (by omega) h.ji h.clean (by omega) hv.vz.lg hv.vz.fra hv.vz.end_ M hM hM1 _ _ rfl rfl (by have := hv.few M hM; omega) hv.vz.iv hi).mono ?_
    rintro e w' ⟨x, rfl, ⟨rfl, D', who', i', hm', hj, hi', hch, hl', hck, hf'⟩ | ⟨rfl, hnz, _⟩⟩
    · have hcl : Cl w w' 200000 D' i' := ⟨⟨who', hm'.rep⟩, hj, h.bel.trans (hm'.mv.below R), hch⟩
      rcases hl' with ⟨_, hl'⟩ | ⟨e, _⟩
      · exact ⟨rfl, Keeps.moved R hm', D', i', hcl, by omega, hf' hf, chk_all hv hM hM1 (by omega) hl' hck⟩
      · omega
    · exact absurd hf hnz
/-- Tell at a mark behind a checkpoint. -/
theorem tell_vt (w V : World) {D : DS} {i : Nat} (h : Cl w V 200000 D i) {M c : Nat} {L : Nat → List UInt8} {B K : Nat} {N E : Nat → Nat} {P : Nat → List UInt8} {XD : List UInt8} (hv : Vt M c L B XD (seenOf D nmD) (seenOf D nmJ) K N E P) (hB : B ≤ 180) (M' : Nat) (hM : IsM K E M') (hl : M ≤ M') : Calls Tryz.prog 23 #[.pointer (some ⟨w.heap.size + 1, 0, none⟩), .int .i64 (M' : Int)] V fun e w' => (∃ q cp, e = .returned (.slice q (cntL XD M' E) cp) ∧ PgR w' q (cntL XD M' E) (fun k => pgAt XD N P M' (k + 1))) ∧ V.grownBy w' none := by
  obtain ⟨who, R⟩ := h.rep
  have hfew := hv.vz.few
  have h15 := hv.few M' hM
  have hc := hv.cnt M' hM hl
  refine (tell_w V _ _ D who R h.ji (hv.vz.lg.lgf (by omega) hv.vz.fra hv.vz.end_) M' hM (cntL XD M' E) hc.symm (by omega)).mono ?_
  rintro e w' ⟨⟨q, cp, rfl, hp⟩, hg⟩
  refine ⟨⟨q, cp, rfl, fun h0 => ?_⟩, hg⟩
  obtain ⟨g, cur, e, hb, hcl⟩ := hp h0
  exact ⟨g, cur, e, hb, fun k hk => by show (pgAt XD N P M' (k + 1)).length = 256 ∧ w'.rangeAt g (k * 256) (bcs (pgAt XD N P M' (k + 1))); rw [← hv.pgs M' hM hl k hk]; exact hcl k hk⟩
/-- The last checkpoint: all is home. -/
theorem cp_end (w V : World) {D : DS} {i : Nat} (h : Cl w V 200000 D i) (hf : D.fuse = 0) {c : Nat} {L : Nat → List UInt8} {B K : Nat} {N E : Nat → Nat} {P : Nat → List UInt8} (hv : Vz c L B (seenOf D nmD) (seenOf D nmJ) K N E P) (hB : B ≤ 180) (hi : i ≤ 10000) (hK : 1 ≤ K) :
    Calls Tryz.prog 22 #[.pointer (some ⟨w.heap.size + 1, 0, none⟩), .int .i64 (K : Int)] V fun e w' => e = .returned (.int .i64 0) ∧ Keeps V w' ∧ ∃ D' i', Cl w w' 200000 D' i' ∧ Vz c L B (seenOf D' nmD) (seenOf D' nmJ) 0 n0 e0 p0 := by
  obtain ⟨who, R⟩ := h.rep
  have hfew := hv.few
  have hcM : cntL (seenOf D nmD) K E ≤ 200 := by
    unfold cntL
    rw [if_neg (by omega)]
    have := hv.low (K - 1) (by omega)
    omega
  refine (checkpoint_x V _ _ D who R (by omega) h.ji h.clean (by omega) hv.lg hv.fra hv.end_ K (end_isM hv.end_) hK _ _ rfl rfl hcM hv.iv hi).mono ?_
  rintro e w' ⟨x, rfl, ⟨rfl, D', who', i', hm', hj, hi', hch, hl', hck, hf'⟩ | ⟨rfl, hnz, _⟩⟩
  · have hcl : Cl w w' 200000 D' i' := ⟨⟨who', hm'.rep⟩, hj, h.bel.trans (hm'.mv.below R), hch⟩
    rcases hl' with ⟨e, _⟩ | ⟨_, hl'⟩
    · exact absurd rfl e
    · rw [hv.cnt] at hck
      exact ⟨rfl, Keeps.moved R hm', D', i', hcl, vz_home hv hl' hck⟩
  · exact absurd hf hnz
end Go.Proofs.YteocmhbllckpjaaGreat

namespace Go.Proofs.YteocmhbllckpjaaGreat
open Go.ChangeShapes Go.WideShapes Go.ChangeAt Go.RowKit
open Go.ChangeMaps (setBlock)
set_option linter.unusedVariables false

theorem DoS.from {w V V' w' : World} {D : DS} {i n B K : Nat} {N E : Nat → Nat} {P : Nat → List UInt8} (h : DoS w V' D i n B K N E P w') (hr : V.grownBy V' none) : DoS w V D i n B K N E P w' := ⟨(Keeps.grown hr).trans h.1, h.2⟩
theorem DoS.grown {w V w' w'' : World} {D : DS} {i n B K : Nat} {N E : Nat → Nat} {P : Nat → List UInt8} (h : DoS w V D i n B K N E P w') (hr : w'.grownBy w'' none) : DoS w V D i n B K N E P w'' := by
  obtain ⟨h0, D', i', K', N', E', P', h1, h2⟩ := h
  exact ⟨h0.trans (Keeps.grown hr), D', i', K', N', E', P', h1.grown hr, h2⟩
/-- What do hands back. -/
def DoY (w V : World) (D : DS) (i n B K : Nat) (N E : Nat → Nat) (P : Nat → List UInt8) (e : Ending) (w' : World) : Prop :=
  ∃ q c2 cp, e = .returned (.tuple #[.slice q c2 cp, .int .i64 0]) ∧ DoS w V D i n B K N E P w'

set_option maxHeartbeats 8000000 in
set_option maxRecDepth 20000 in
theorem do_s (w V : World) {D : DS} {i : Nat} (h : Cl w V 200000 D i) (hf : D.fuse = 0) {a B K : Nat} {N E : Nat → Nat} {P : Nat → List UInt8} (v : Vs a B (seenOf D nmD) (seenOf D nmJ) K N E P) (hB : B + 15 ≤ 180) (hi : i ≤ 10000) (cv : Int) (pb : Option Addr) (nb cb : Nat) (Bf : Nat → UInt8) (hb : ByA V pb nb Bf) :
    Calls Tryz.prog 25 #[.pointer (some ⟨w.heap.size + 1, 0, none⟩), .agg #[.bool false, .int .i64 cv, .slice pb nb cb]] V fun e w' => DoY w V D i a B K N E P e w' := by
  have HX : Hid (Blk (V.alloc (.cells #[.bool false, .int .i64 cv, .slice pb nb cb] 64)) V.heap.size #[.bool false, .int .i64 cv, .slice pb nb cb] 64) := alloc_new _ _
  have HG0 := hideJ (World.grownBy_alloc V (.cells #[.bool false, .int .i64 cv, .slice pb nb cb] 64) none)
  have HC0 := hideJ (h.grown HG0.out)
  have hc := v.few K (end_isM v.vz.end_)
  have HMk := hideJ (fun U (hu : Cl w U 200000 D i) => mark_vz w U hu v.vz hB)
  have HTl := hideJ (fun U (hu : Cl w U 200000 D i) => tell_vz w U hu v.vz hB hc)
  have HCv := hideJ (fun U (hu : Cl w U 200000 D i) count hcount c hcc p n cap hn hp => com_vs w U hu hf v hB hi count hcount nb Bf c hcc p n cap hn hp)
  generalize (fun k => pgAt (seenOf D nmD) N P K (k + 1)) = L at HTl
  generalize hcc : cntL (seenOf D nmD) K E = c at HTl HCv hc
  obtain ⟨cn, hcn, hcv'⟩ := and_small cv 15 (by omega)
  have hcv : bits .and .i64 cv 15 = (cn : Int) := hcv'
  clear hcv'
  have HPg := hideJ (fun U (hu : V.grownBy U none) => pages_w U false cv c cn nb cb hcv hcn hc pb Bf (hb.grown hu))
  obtain ⟨n, hn⟩ : ∃ n, n = (selL c nb Bf cn).length := ⟨_, rfl⟩
  rw [← hn] at HPg
  have HCm := hideJ (fun U (hu : Cl w U 200000 D i) p cap hp => HCv.out U hu cn hcn c rfl p n cap hn hp)
  have hrise : Rise cn n (selN c nb Bf cn) := by rw [hn]; exact selL_rise c nb Bf cn
  have hn15 : n ≤ 15 := by rw [hn]; exact Nat.le_trans (selL_len _ _ _ _) hcn
  generalize selN c nb Bf cn = NN at HPg HCm hrise
  generalize selP c nb Bf cn = LL at HPg HCm
  have HAf := hideJ (fun U q2 c2 q3 c3 hq hWl hp => after_j U q2 q3 c c2 n c3 cn L NN LL hq hWl hp hrise (by omega) (by omega) (by omega))
  have HI64 := hideJ info64
  have HCo := hideJ hcn
  clear h v hn hrise hn15 hcv hb hcn hcc HCv
  go_enter Tryz.func25, Tryz.ntmps25
  go_wp2_with (first
    | (go_at_call 16; (with_reducible refine Calls.mono (HMk.out _ HC0.out) ?_); rintro e w1 ⟨rfl, hg⟩; have HG1 := hideJ (grown_trans' HG0.out hg); have HC1 := hideJ (HC0.out.grown hg); have HX1 := hideJ (Blk.grown HX.out hg); clear hg)
    | (go_at_call 23; (with_reducible refine Calls.mono (HTl.out _ HC1.out) ?_); rintro e w2 ⟨⟨q2, c2, rfl, hp2⟩, hg⟩; have HP2 := hideJ hp2; have HG2 := hideJ (grown_trans' HG1.out hg); have HC2 := hideJ (HC1.out.grown hg); have HX2 := hideJ (Blk.grown HX1.out hg); have cx0 := (HX2.out.cell 0).trans (show _ = some (Value.bool false) from rfl); clear hg hp2)
    | ((with_reducible refine at64L ?_); refine wp_loadB (c := #[.bool false, .int .i64 cv, .slice pb nb cb]) HI64.out u64c HX2.out _ (by rfl) (by rfl) (by rfl) ?_; clear cx0)
    | (go_at_call 51; (with_reducible refine Calls.mono (HPg.out _ HG2.out) ?_); rintro e w3 ⟨⟨q3, c3, rfl, hp3⟩, hg⟩; have HP3 := hideJ hp3; have HQ3 := hideJ (HP2.out.grown hg); have HG3 := hideJ (grown_trans' HG2.out hg); have HC3 := hideJ (HC2.out.grown hg); clear hg hp3)
    | (go_at_call 20; (with_reducible refine Calls.mono (HCm.out _ HC3.out _ _ HP3.out) ?_); rintro e w4 ⟨y4, rfl, h4⟩; have HQ4 := hideJ (HQ3.out.keeps h4.1); have HP4 := hideJ (HP3.out.keeps h4.1); have HD4 := hideJ (h4.from HG3.out); clear h4)
    | (go_at_call 52; (with_reducible refine Calls.mono (HAf.out _ _ _ _ _ HQ4.out (pgr_len HQ4.out) HP4.out) ?_); rintro e w5 ⟨⟨q5, c5, rfl, hp5⟩, hg⟩; have HD5 := hideJ (HD4.out.grown hg); clear hg hp5))
  go_ret2
  exact ⟨q5, cn, c5, rfl, HD5.out⟩
end Go.Proofs.YteocmhbllckpjaaGreat

namespace Go.Proofs.YteocmhbllckpjaaGreat
open Go.ChangeShapes Go.WideShapes Go.ChangeAt Go.RowKit
open Go.ChangeMaps (setBlock)
set_option linter.unusedVariables false

/-- Behind some commits. -/
def S1 (w V : World) (i : Nat) : Prop := ∃ D k K N E P, k ≤ 301 * i ∧ Cl w V 200000 D k ∧ D.fuse = 0 ∧ Vs i (15 * i) (seenOf D nmD) (seenOf D nmJ) K N E P
theorem s1_step {w V w' : World} {D : DS} {i k K : Nat} {N E : Nat → Nat} {P : Nat → List UInt8} (hk : k ≤ 301 * i) (h : DoS w V D k i (15 * i) K N E P w') : S1 w w' (i + 1) := by
  obtain ⟨_, D', i', K', N', E', P', h1, h2, h3, h4, h5, h6⟩ := h
  exact ⟨D', i', K', N', E', P', by omega, h1, h3, by rw [show 15 * (i + 1) = 15 * i + 15 by omega]; exact h5⟩
theorem mkN_sorted (E : Nat → Nat) (K : Nat) : (mkN E K).Pairwise (· ≤ ·) := by
  unfold mkN
  refine List.pairwise_cons.2 ⟨fun a _ => Nat.zero_le _, ?_⟩
  refine List.Pairwise.map _ (fun a b h => ?_) ((List.pairwise_lt_range (n := K)).filter _)
  omega
theorem mkN_mono {E : Nat → Nat} {K i j : Nat} (hij : i ≤ j) (hj : j < (mkN E K).length) : (mkN E K).getD i 0 ≤ (mkN E K).getD j 0 := by
  rw [List.getD_eq_getElem?_getD, List.getD_eq_getElem?_getD, List.getElem?_eq_getElem hj, List.getElem?_eq_getElem (by omega : i < _)]
  show (mkN E K)[i] ≤ (mkN E K)[j]
  rcases Nat.lt_or_ge i j with c | c
  · exact List.pairwise_iff_getElem.1 (mkN_sorted E K) i j (by omega) hj c
  · obtain rfl : i = j := by omega
    exact Nat.le_refl _
/-- What was told, kept in a row. -/
def Told (w : World) (q : Option Addr) (n : Nat) (cf : Nat → Nat) (vf : Nat → Nat → List UInt8) : Prop := 0 < n → ∃ g, ∃ cur : Array Value, q = some ⟨g, 0, none⟩ ∧ Blk w g cur 57 ∧ ∀ m, m < n → ∃ q cp, cur[m]? = some (.slice q (cf m) cp) ∧ PgR w q (cf m) (vf m)
theorem Told.keeps {w w' : World} {q : Option Addr} {n : Nat} {cf : Nat → Nat} {vf : Nat → Nat → List UInt8} (h : Told w q n cf vf) (hk : Keeps w w') : Told w' q n cf vf := fun h0 => by
  obtain ⟨g, cur, e, hb, hc⟩ := h h0
  refine ⟨g, cur, e, hk _ _ _ (by unfold OkT; decide) hb, fun m hm => ?_⟩
  obtain ⟨q, cp, e, hp⟩ := hc m hm
  exact ⟨q, cp, e, hp.keeps hk⟩
/-- The same while it is written. -/
def ToO (w : World) (base : Nat) (v : Value) (j : Nat) (cf : Nat → Nat) (vf : Nat → Nat → List UInt8) : Prop := ∃ q c xs, v = .slice q j c ∧ w.ownsRow base 57 1 v j xs ∧ xs.length = j ∧ ∀ m, m < j → ∃ q cp, xs[m]? = some (.slice q (cf m) cp) ∧ PgR w q (cf m) (vf m)
theorem ToO.told {w : World} {base : Nat} {v : Value} {j : Nat} {cf : Nat → Nat} {vf : Nat → Nat → List UInt8} (h : ToO w base v j cf vf) : ∃ q c, v = .slice q j c ∧ Told w q j cf vf := by
  obtain ⟨q, c, xs, rfl, hown, hl, hx⟩ := h
  refine ⟨q, c, rfl, fun h0 => ?_⟩
  rcases hown.2 with ⟨e, hz⟩ | ⟨g, cap, cur, e, hbg, hg, hnc, hcm, hcs, htake⟩
  · omega
  · cases e
    refine ⟨g, cur, rfl, hg, fun m hm => ?_⟩
    obtain ⟨q, cp, e, hp⟩ := hx m hm
    refine ⟨q, cp, ?_, hp⟩
    rw [← htake, List.getElem?_take, if_pos (by omega)] at e
    rw [← Array.getElem?_toList]; exact e
theorem ToO.step {W w' : World} {base : Nat} {v : Value} {j g cap : Nat} {cf : Nat → Nat} {vf : Nat → Nat → List UInt8} {xs : List Value} {q : Option Addr} {cp : Nat} (hl : xs.length = j) (hx : ∀ m, m < j → ∃ q cp, xs[m]? = some (.slice q (cf m) cp) ∧ PgR W q (cf m) (vf m)) (hq : PgR W q (cf j) (vf j)) (ho : w'.ownsRow base 57 1 (.slice (some ⟨g, 0, none⟩) (j + 1) cap) (j + 1) (xs ++ [.slice q (cf j) cp])) (ha : AppE 57 base v W w') : ToO w' base (.slice (some ⟨g, 0, none⟩) (j + 1) cap) (j + 1) cf vf := by
  have keep : ∀ {q n L}, PgR W q n L → PgR w' q n L := fun {q n L} h h0 => by
    obtain ⟨g, cur, e, hb, hc⟩ := h h0
    have hb' := ha.blk _ _ _ (by decide) hb
    exact ⟨g, cur, e, hb', fun k hk => ⟨(hc k hk).1, range_blk (hc k hk).2 hb hb'⟩⟩
  refine ⟨_, _, _, rfl, ho, by simp [hl], fun m hm => ?_⟩
  by_cases c : m < j
  · obtain ⟨q, cp, e, hp⟩ := hx m c
    exact ⟨q, cp, by rw [List.getElem?_append_left (by omega)]; exact e, keep hp⟩
  · obtain rfl : m = j := by omega
    exact ⟨q, cp, by rw [List.getElem?_append_right (by omega), hl, Nat.sub_self]; rfl, keep hq⟩
theorem infoE57 : InfoE 57 1 24 := infoE_of (by kernel_rfl)
theorem atApp68 {P : Program} {ops : Array Oper} {Q : Exit → Act → World → Prop} {d : Option Tmp} {x y : Operand} {ty : TypeId} {pos : String} {af : Array Edge} {gd : Option (Nat × Bool)} {rest : List Oper} {a : Act} {w : World} (h : wpList P ops Q ({ dst := d, op := .call { callee := .builtin .append, args := #[x, y], argTypes := #[68, 68] }, type := ty, pos := pos, after := af, guard := gd } :: rest) a w) : wpList P ops Q ({ dst := d, op := .call { callee := .builtin .append, args := #[x, y], argTypes := #[68, 68] }, type := ty, pos := pos, after := af, guard := gd } :: rest) a w := h

theorem Vs.later {n B B' : Nat} {XD XJ : List UInt8} {K : Nat} {N E : Nat → Nat} {P : Nat → List UInt8} (h : Vs n B XD XJ K N E P) (hB : B ≤ B') : Vs n B' XD XJ K N E P := { h with vz := { h.vz with few := Nat.le_trans h.vz.few hB } }
/-- Marks are told as they were told. -/
def Tells (w : World) (D : DS) (k t ml : Nat) (MF cf : Nat → Nat) (vf : Nat → Nat → List UInt8) : Prop := ∀ m, t ≤ m → m < ml → ∀ U, Cl w U 200000 D k → Calls Tryz.prog 23 #[.pointer (some ⟨w.heap.size + 1, 0, none⟩), .int .i64 (MF m : Int)] U fun e w' => (∃ q cp, e = .returned (.slice q (cf m) cp) ∧ PgR w' q (cf m) (vf m)) ∧ U.grownBy w' none
structure S2 (w V : World) (ml : Nat) (MF cf : Nat → Nat) (vf : Nat → Nat → List UInt8) (D : DS) (k K : Nat) (N E : Nat → Nat) (P : Nat → List UInt8) (a : Nat) : Prop where
  few : k ≤ 4000
  cl : Cl w V 200000 D k
  fuse : D.fuse = 0
  vs : Vs a 165 (seenOf D nmD) (seenOf D nmJ) K N E P
  isM : ∀ m, m < ml → IsM K E (MF m)
  lt : ∀ m, m < ml → MF m < K
  cnt : ∀ m, m < ml → cntL (seenOf D nmD) (MF m) E = cf m
  pgs : ∀ m, m < ml → (fun k => pgAt (seenOf D nmD) N P (MF m) (k + 1)) = vf m
theorem S2.tells {w V : World} {ml : Nat} {MF cf : Nat → Nat} {vf : Nat → Nat → List UInt8} {D : DS} {k K : Nat} {N E : Nat → Nat} {P : Nat → List UInt8} {a : Nat} (h : S2 w V ml MF cf vf D k K N E P a) : Tells w D k 0 ml MF cf vf := fun m _ hm U hu => by
  have := tell_vm w U hu h.vs (by omega) (MF m) (h.isM m hm)
  rw [h.cnt m hm, h.pgs m hm] at this
  exact this
/-- Behind the checkpoint in the midst. -/
structure S3 (w V : World) (t ml : Nat) (MF cf : Nat → Nat) (vf : Nat → Nat → List UInt8) (D : DS) (k K c : Nat) (L : Nat → List UInt8) (N E : Nat → Nat) (P : Nat → List UInt8) : Prop where
  few : k ≤ 5000
  cl : Cl w V 200000 D k
  fuse : D.fuse = 0
  vz : Vz c L 165 (seenOf D nmD) (seenOf D nmJ) K N E P
  pos : 1 ≤ K
  c15 : c ≤ 15
  tells : Tells w D k t ml MF cf vf
theorem S2.cp {w V : World} {ml : Nat} {MF cf : Nat → Nat} {vf : Nat → Nat → List UInt8} {D : DS} {k K : Nat} {N E : Nat → Nat} {P : Nat → List UInt8} {a : Nat} (h : S2 w V ml MF cf vf D k K N E P a) (hmono : ∀ i j, i ≤ j → j < ml → MF i ≤ MF j) (t : Nat) (ht : t < ml) (U : World) (hu : Cl w U 200000 D k) :
    Calls Tryz.prog 22 #[.pointer (some ⟨w.heap.size + 1, 0, none⟩), .int .i64 (MF t : Int)] U fun e w' => e = .returned (.int .i64 0) ∧ Keeps U w' ∧ ∃ D' k' K c L N E P, S3 w w' t ml MF cf vf D' k' K c L N E P := by
  refine (cp_vs w U hu h.fuse h.vs (by omega) (by have := h.few; omega) (MF t) (h.isM t ht) (h.lt t ht)).mono ?_
  rintro e w' ⟨rfl, hk, D', i', hcl, hi', hf, hvt⟩
  refine ⟨rfl, hk, D', i', K, _, _, N, E, P, by have := h.few; omega, hcl, hf, hvt.vz, by have := h.lt t ht; omega, h.vs.few K (end_isM h.vs.vz.end_), fun m hm1 hm2 U hu => ?_⟩
  have := tell_vt w U hu hvt (by omega) (MF m) (h.isM m hm2) (hmono t m hm1 hm2)
  rw [h.cnt m hm2, h.pgs m hm2] at this
  exact this
theorem dos_s2 {w V w' : World} {D : DS} {i k K : Nat} {N E : Nat → Nat} {P : Nat → List UInt8} (hi : i ≤ 10) (hk : k ≤ 301 * i) (v : Vs i (15 * i) (seenOf D nmD) (seenOf D nmJ) K N E P) (h : DoS w V D k i (15 * i) K N E P w') :
    Keeps V w' ∧ ∃ D' k' K' N' E' P' a, S2 w w' (i + 1) (fun k => (mkN E K).getD k 0) (fun m => cntL (seenOf D nmD) ((mkN E K).getD m 0) E) (fun m k => pgAt (seenOf D nmD) N P ((mkN E K).getD m 0) (k + 1)) D' k' K' N' E' P' a := by
  obtain ⟨h0, D', i', K', N', E', P', h1, h2, h3, h4, h5, h6, h7⟩ := h
  have hM : ∀ m, m < i + 1 → IsM K E ((mkN E K).getD m 0) := fun m hm => mkN_isM (by rw [List.getD_eq_getElem?_getD, List.getElem?_eq_getElem (by rw [v.mks]; exact hm)]; exact List.getElem_mem _)
  refine ⟨h0, D', i', K', N', E', P', i + 1, by omega, h1, h3, h5.later (by omega), fun m hm => h6.isM (hM m hm), fun m hm => Nat.lt_of_le_of_lt (hM m hm).le h7, fun m hm => ?_, fun m hm => ?_⟩
  · rw [h4]; exact h6.cnt (hM m hm).le _
  · rw [h4]; funext k; exact h6.at _ _ _ (hM m hm).le
/-- How a Go slice of marks lies. -/
theorem marks_s1 (w : World) {D : DS} {i k K : Nat} {N E : Nat → Nat} {P : Nat → List UInt8} (hi : i ≤ 10) (v : Vs i (15 * i) (seenOf D nmD) (seenOf D nmJ) K N E P) (U : World) (h : Cl w U 200000 D k) :
    Calls Tryz.prog 17 #[.pointer (some ⟨w.heap.size + 1, 0, none⟩)] U fun x w' => (∃ p, (∃ cap, x = .returned (.tuple #[.slice p (i + 1) cap, .int .i64 0])) ∧ IntA w' p (i + 1) (fun k => (mkN E K).getD k 0)) ∧ U.grownBy w' none := by
  have := marks_vz w U h v.vz (by omega)
  rw [v.mks] at this
  exact this
theorem ToO.nil (w : World) (base : Nat) (cf : Nat → Nat) (vf : Nat → Nat → List UInt8) : ToO w base (.slice none 0 0) 0 cf vf := ⟨none, 0, [], rfl, World.ownsRow_nil _ _ _ _, rfl, fun m hm => by omega⟩
theorem one_sl (q : Option Addr) (n c : Nat) : ∀ u ∈ [Value.slice q n c], u.oneCell' = true := by intro u hu; simp at hu; rw [hu]; rfl
theorem Told.grown {w w' : World} {q : Option Addr} {n : Nat} {cf : Nat → Nat} {vf : Nat → Nat → List UInt8} (h : Told w q n cf vf) (hg : w.grownBy w' none) : Told w' q n cf vf := h.keeps (Keeps.grown hg)

theorem nine (U : World) : ByA (U.alloc (.cells #[.int .u8 9, .int .u8 9, .int .u8 9] 5)) (some ⟨U.heap.size, 0, none⟩) 3 (fun _ => 9) := fun _ => ⟨U.heap.size, 0, rfl, fun j hj => by
  rw [Blk.cell (alloc_new U (.cells #[.int .u8 9, .int .u8 9, .int .u8 9] 5))]
  match j, hj with
  | 0, _ => rfl
  | 1, _ => rfl
  | 2, _ => rfl⟩
theorem S2.c15 {w V : World} {ml : Nat} {MF cf : Nat → Nat} {vf : Nat → Nat → List UInt8} {D : DS} {k K : Nat} {N E : Nat → Nat} {P : Nat → List UInt8} {a : Nat} (h : S2 w V ml MF cf vf D k K N E P a) : ∀ m, m < ml → cf m ≤ 15 := fun m hm => by
  rw [← h.cnt m hm]; exact h.vs.few _ (h.isM m hm)
/-- A row of rows stays. -/
theorem told_keeps {w w' : World} {n : Nat} {cut : Array Value} {cf : Nat → Nat} {vf : Nat → Nat → List UInt8} (h : ∀ m, m < n → ∃ q cp, cut[m]? = some (.slice q (cf m) cp) ∧ PgR w q (cf m) (vf m)) (hk : Keeps w w') : ∀ m, m < n → ∃ q cp, cut[m]? = some (.slice q (cf m) cp) ∧ PgR w' q (cf m) (vf m) := fun m hm => by
  obtain ⟨q, cp, e, hp⟩ := h m hm
  exact ⟨q, cp, e, hp.keeps hk⟩
theorem okT3 : OkT 3 := by unfold OkT; decide
theorem okT57 : OkT 57 := by unfold OkT; decide
theorem mkN_one : (mkN e0 0).length = 1 := rfl
/-- The marks of an empty log. -/
theorem marks_none (w U : World) {D : DS} {k c : Nat} {L : Nat → List UInt8} (h : Cl w U 200000 D k) (v : Vz c L 165 (seenOf D nmD) (seenOf D nmJ) 0 n0 e0 p0) : Calls Tryz.prog 17 #[.pointer (some ⟨w.heap.size + 1, 0, none⟩)] U fun x w' => (∃ p cap, x = .returned (.tuple #[.slice p 1 cap, .int .i64 0])) ∧ U.grownBy w' none := by
  refine (marks_vz w U h v (by omega)).mono ?_
  rintro x w' ⟨⟨p, ⟨cap, rfl⟩, _⟩, hg⟩
  exact ⟨⟨p, cap, by rw [mkN_one]⟩, hg⟩
theorem tell_none (w U : World) {D : DS} {k c : Nat} {L : Nat → List UInt8} (h : Cl w U 200000 D k) (hc : c ≤ 15) (v : Vz c L 165 (seenOf D nmD) (seenOf D nmJ) 0 n0 e0 p0) : Calls Tryz.prog 23 #[.pointer (some ⟨w.heap.size + 1, 0, none⟩), .int .i64 0] U fun e w' => (∃ q cp, e = .returned (.slice q c cp) ∧ PgR w' q c L) ∧ U.grownBy w' none := tell_vz w U h v (by omega) hc

set_option maxHeartbeats 32000000 in
set_option maxRecDepth 20000 in
theorem stays_walk (w : World) (p : Option Addr) (nl cl : Nat) (hm : Nat → Bool) (cv : Nat → Int) (pb : Nat → Option Addr) (nb cb : Nat → Nat) (B : Nat → Nat → UInt8) (hch : ChH w p nl hm cv pb nb cb B) (kk : Int) :
    Calls Tryz.prog 6 #[.slice p nl cl, .int .i64 kk] w fun e w' => e = .returned (.bool true) ∧ Below w.heap.size w w' := by
  have HAw : Hid (∀ V, Below w.heap.size w V → Calls Tryz.prog 7 #[] V fun e w' => e = .returned (.bool true) ∧ Below w.heap.size w w') := fun V hb => Calls.mono (awake_w V) (fun e w' h => ⟨h.1, hb.trans (h.2.mono hb.size)⟩)
  have HB0 := hideJ (Below.refl w.heap.size w)
  by_cases hbig : 10 < nl
  · have l1 : (10 : Int) < (nl : Int) := by omega
    clear hch
    go_enter Tryz.func6, Tryz.ntmps6
    go_wp2_with (go_at_call 7; (with_reducible refine Calls.mono (HAw.out _ HB0.out) ?_); rintro e w1 ⟨rfl, hb⟩; have HB1 := hideJ hb; clear hb)
    go_ret
    exact ⟨rfl, HB1.out⟩
  have l1 : ¬ (10 : Int) < (nl : Int) := by omega
  have HNw0 : Hid (Calls Tryz.prog 8 #[.int .i64 200000] w fun e w' => e = .returned (.pointer (some ⟨w.heap.size + 1, 0, none⟩)) ∧ S1 w w' 0) := Calls.mono (new_any w 200000 (by decide)) (fun e w' h => ⟨h.1, _, 0, _, _, _, _, Nat.le_refl _, ⟨h.2.2, JI.fresh _ _, grown_below (Nat.le_refl _) h.2.1, rfl⟩, rfl, Vs.zero⟩)
  have HCh := hideJ hch
  have HN := hideJ (show nl ≤ 10 by omega)
  clear hch hbig
  go_enter Tryz.func6, Tryz.ntmps6
  go_wp2_with (go_at_call 8; (with_reducible refine Calls.mono HNw0.out ?_); rintro e w1 ⟨rfl, h1⟩; have HW1 := hideJ h1; clear h1)
  clear l1
  go_loopw [6] (fun iv wr => ∃ i : Nat, i ≤ nl ∧ iv = .int .i64 (i : Int) ∧ S1 w wr i) (fun iv _ => nl - (intOf iv).toNat)
  case atStart => exact ⟨0, Nat.zero_le _, rfl, HW1.out⟩
  case round =>
    obtain ⟨i, hi, rfl, hmode⟩ := hrel
    by_cases hlt : i < nl
    · obtain ⟨D, k, K, N, E, PP, hk, hcl, hfz, v⟩ := hmode
      have HCl0 := hideJ hcl
      have HK1 := hideJ hk
      have m1 : (i : Int) < (nl : Int) := by omega
      have m0 : (0 : Int) ≤ (i : Int) := by omega
      have hw1 : IntKind.i64.wrap ((i : Int) + 1) = (i : Int) + 1 := by have := HN.out; rw [IntKind.wrap_i64]; omega
      have HJ := hideJ hlt
      obtain ⟨b, o, rfl, hcells⟩ := HCh.out (by omega)
      have HCe := hideJ (fun V (hb : Below w.heap.size w V) => And.intro (below_cell hb (hcells i hlt).2.1) (below_cell hb (hcells i hlt).2.2.1))
      have HBy : Hid (∀ V, Below w.heap.size w V → ByA V (pb i) (nb i) (B i)) := fun V hb hn => by
        obtain ⟨b', o', e', h4⟩ := (hcells i hlt).2.2.2 hn
        exact ⟨b', o', e', fun j hj => below_cell hb (h4 j hj)⟩
      have HDo : Hid (∀ U, Cl w U 200000 D k → Calls Tryz.prog 25 #[.pointer (some ⟨w.heap.size + 1, 0, none⟩), .agg #[.bool false, .int .i64 (cv i), .slice (pb i) (nb i) (cb i)]] U fun e w' => (∃ q c cp, e = .returned (.tuple #[.slice q c cp, .int .i64 0])) ∧ S1 w w' (i + 1) ∧ Below w.heap.size w w') := fun U h => by
        refine (do_s w U h hfz v (by have := HN.out; omega) (by have := HN.out; omega) (cv i) (pb i) (nb i) (cb i) (B i) (HBy.out U h.bel)).mono ?_
        rintro e w' ⟨q, c, cp, rfl, hs⟩
        have h1 := s1_step HK1.out hs
        obtain ⟨_, _, _, _, _, _, _, h2, _⟩ := h1
        exact ⟨⟨q, c, cp, rfl⟩, s1_step HK1.out hs, h2.bel⟩
      clear hk hcl hfz v hcells hlt
      have HC7 := hideJ (HCl0.out.grown (World.grownBy_drew _))
      go_upto_region 7 with (fail)
      go_region_held3 (fun V => V.cell? ⟨b, o + i * 3 + 1, none⟩ = some (Value.int .i64 (cv i)) ∧ V.cell? ⟨b, o + i * 3 + 2, none⟩ = some (Value.slice (pb i) (nb i) (cb i))) (first | with_reducible exact HCe.out _ HCl0.out.bel | with_reducible exact HCe.out _ HC7.out.bel | with_reducible exact HCe.out _ HB7.out) (first
        | (go_at_call 25; (with_reducible refine Calls.mono (HDo.out _ HC7.out) ?_); rintro e w6 ⟨⟨q6, n6, c6, rfl⟩, h6, hb6⟩; have HS6 := hideJ h6; have HB7 := hideJ hb6; clear h6 hb6))
      go_wp2
      refine ⟨⟨i + 1, HJ.out, rfl, HS6.out⟩, ?_⟩
      simp only [intOf]; have := HJ.out; omega
    · obtain rfl : i = nl := by omega
      obtain ⟨D, k, K, N, E, PP, hk, hcl, hfz, v⟩ := hmode
      have HCl0 := hideJ hcl
      have hw1 : IntKind.i64.wrap ((i : Int) + 1) = (i : Int) + 1 := by have := HN.out; rw [IntKind.wrap_i64]; omega
      have HMs := hideJ (fun U h => marks_s1 w (k := k) HN.out v U h)
      have HDo : Hid (∀ U cv pb nb cb Bf, Cl w U 200000 D k → ByA U pb nb Bf → Calls Tryz.prog 25 #[.pointer (some ⟨w.heap.size + 1, 0, none⟩), .agg #[.bool false, .int .i64 cv, .slice pb nb cb]] U fun e w' => (∃ q c cp, e = .returned (.tuple #[.slice q c cp, .int .i64 0])) ∧ Keeps U w' ∧ ∃ D' k' K' N' E' P' a, S2 w w' (i + 1) (fun k => (mkN E K).getD k 0) (fun m => cntL (seenOf D nmD) ((mkN E K).getD m 0) E) (fun m k => pgAt (seenOf D nmD) N PP ((mkN E K).getD m 0) (k + 1)) D' k' K' N' E' P' a) := fun U cv pb nb cb Bf h hb => by
        refine (do_s w U h hfz v (by have := HN.out; omega) (by have := HN.out; omega) cv pb nb cb Bf hb).mono ?_
        rintro e w' ⟨q, c, cp, rfl, hs⟩
        exact ⟨⟨q, c, cp, rfl⟩, dos_s2 HN.out hk v hs⟩
      have HTl : Hid (Tells w D k 0 (i + 1) (fun k => (mkN E K).getD k 0) (fun m => cntL (seenOf D nmD) ((mkN E K).getD m 0) E) (fun m k => pgAt (seenOf D nmD) N PP ((mkN E K).getD m 0) (k + 1))) := fun m _ hm U hu => tell_vm w U hu v (by have := HN.out; omega) _ (mkN_isM (by show (mkN E K).getD m 0 ∈ _; rw [List.getD_eq_getElem?_getD, List.getElem?_eq_getElem (by rw [v.mks]; exact hm)]; exact List.getElem_mem _))
      have HMo : Hid (∀ x y, x ≤ y → y < i + 1 → (fun k => (mkN E K).getD k 0) x ≤ (fun k => (mkN E K).getD k 0) y) := fun x y h1 h2 => mkN_mono h1 (by rw [v.mks]; exact h2)
      generalize (fun m => cntL (seenOf D nmD) ((mkN E K).getD m 0) E) = cf at HDo HTl
      generalize (fun m k => pgAt (seenOf D nmD) N PP ((mkN E K).getD m 0) (k + 1)) = vf at HDo HTl
      generalize (fun k => (mkN E K).getD k 0) = MF at HMs HDo HTl HMo
      obtain ⟨ml, hml⟩ : ∃ ml, ml = i + 1 := ⟨_, rfl⟩
      rw [← hml] at HMs HDo HTl HMo
      have HMl := hideJ hml
      have e1 : ((ml : Int) == (i : Int) + 1) = true := by simp; omega
      have e2 : ((i : Int) + 1 == (ml : Int)) = true := by simp; omega
      have e3 : ((ml : Int) != (i : Int) + 1) = false := by simp; omega
      have m1 : ¬ (i : Int) < (i : Int) := by omega
      clear hk hcl hfz v hml
      go_upto_region 13 with (go_at_call 17; (with_reducible refine Calls.mono (HMs.out _ HCl0.out) ?_); rintro e w2 ⟨⟨p2, ⟨c2, rfl⟩, hI2⟩, hg⟩; obtain ⟨gm, cum, rfl, hbm, hcm⟩ := hI2 (by have := HMl.out; omega); have HBm := hideJ hbm; have HCm := hideJ hcm; have HC2 := hideJ (HCl0.out.grown hg); clear hg hI2 hbm hcm)
      clear e1 e2 e3 m1 hw1
      go_wp2
      go_loopw [11, 12] (fun tv jv wr => ∃ j : Nat, j ≤ ml ∧ jv = .int .i64 (j : Int) ∧ ToO wr w2.heap.size tv j cf vf ∧ w2.grownBy wr none) (fun _ jv _ => ml - (intOf jv).toNat)
      case atStart => exact ⟨0, Nat.zero_le _, rfl, ToO.nil _ _ _ _, grown_refl _⟩
      case round =>
        obtain ⟨j, hj, rfl, hto, hgr⟩ := hrel
        have HGr := hideJ hgr
        clear hgr
        by_cases hlt : j < ml
        · obtain ⟨qt, ct, xs, rfl, hown, hxl, hxs⟩ := hto
          have HOw := hideJ hown
          have HXs := hideJ (And.intro hxl hxs)
          have HJ := hideJ hlt
          have m1 : (j : Int) < (ml : Int) := by omega
          have m0 : (0 : Int) ≤ (j : Int) := by omega
          have hw1 : IntKind.i64.wrap ((j : Int) + 1) = (j : Int) + 1 := by have := HN.out; have := HMl.out; rw [IntKind.wrap_i64]; omega
          have hce := ((Blk.grown HBm.out HGr.out).cell j).trans (HCm.out j hlt)
          have HT := hideJ (fun U hu => HTl.out j (Nat.zero_le _) hlt U hu)
          have HJ5 := hideJ (show j + 1 ≤ 100000 by have := HN.out; have := HMl.out; omega)
          clear hown hxl hxs hlt
          go_wp2_with (first
            | (go_at_call 23; (with_reducible refine Calls.mono (HT.out _ (HC2.out.grown HGr.out)) ?_); rintro e w3 ⟨⟨q3, c3, rfl, hp3⟩, hg⟩; have HP3 := hideJ hp3; have HG3 := hideJ (grown_trans' HGr.out hg); have HO3 := hideJ (own_grown HOw.out hg); have HY3 := hideJ (fun m (hm : m < j) => (HXs.out.2 m hm).imp (fun q h => h.imp (fun cp h => And.intro h.1 (h.2.grown hg)))); clear hg hp3 hce)
            | ((with_reducible refine atApp68 ?_); refine wp_appE (m := 1) Tryz.underlying68 infoE57 (by omega) (by omega) [.slice q3 (cf j) c3] (by rfl) (by omega) (one_sl _ _ _) HO3.out HJ5.out HG3.out.size _ _ (by rfl) (by rfl) (by rfl) (by rfl) ?_; intro g6 cap6 w6 hown6 hap6; have HO6 := hideJ (ToO.step HXs.out.1 HY3.out HP3.out hown6 hap6); have HG6 := hideJ (hap6.grown w2 (Nat.le_refl _) HG3.out); clear hown6 hap6))
          refine ⟨⟨j + 1, HJ.out, rfl, HO6.out, HG6.out⟩, ?_⟩
          simp only [intOf]; have := HJ.out; omega
        · obtain rfl : j = ml := by omega
          obtain ⟨qt, ct, rfl, htd⟩ := hto.told
          obtain ⟨gt, cut, rfl, hbt, hct⟩ := htd (by have := HMl.out; omega)
          have HBt := hideJ hbt
          have HCt := hideJ hct
          have HC3 := hideJ (HC2.out.grown HGr.out)
          have HBn := hideJ (Blk.grown HBm.out HGr.out)
          have m1 : ¬ (j : Int) < (j : Int) := by omega
          clear hto hbt hct hlt htd
          go_upto_region 21 with (go_at_call 25; (with_reducible refine Calls.mono (HDo.out _ _ _ _ _ _ (HC3.out.grown (World.grownBy_alloc _ _ none)) (nine _)) ?_); rintro e w4 ⟨⟨q4, n4, c4, rfl⟩, hk4, D4, k4, K4, N4, E4, P4, a4, h4⟩; have HS4 := hideJ h4; have HK4 := hideJ ((Keeps.grown (World.grownBy_alloc _ _ none)).trans hk4); clear h4 hk4)
          have HBm4 := hideJ (HK4.out _ _ _ okT3 HBn.out)
          have HBt4 := hideJ (HK4.out _ _ _ okT57 HBt.out)
          have HCt4 := hideJ (told_keeps HCt.out HK4.out)
          have HC4 := hideJ HS4.out.cl
          have HTe := hideJ HS4.out.tells
          have H15 := hideJ HS4.out.c15
          have HCp := hideJ (fun t ht U hu => HS4.out.cp HMo.out t ht U hu)
          clear m1
          go_wp2
          go_loopw [13] (fun jv wr => ∃ m : Nat, m ≤ j ∧ jv = .int .i64 (m : Int) ∧ w4.grownBy wr none) (fun jv _ => j - (intOf jv).toNat)
          case atStart => exact ⟨0, Nat.zero_le _, rfl, grown_refl _⟩
          case round =>
            obtain ⟨m, hj, rfl, hgr⟩ := hrel
            have HGa := hideJ hgr
            clear hgr
            by_cases hlt : m < j
            · have m1 : (m : Int) < (j : Int) := by omega
              have m0 : (0 : Int) ≤ (m : Int) := by omega
              have hw1 : IntKind.i64.wrap ((m : Int) + 1) = (m : Int) + 1 := by have := HN.out; have := HMl.out; rw [IntKind.wrap_i64]; omega
              obtain ⟨qm, cpm, em, hpm⟩ := HCt4.out m hlt
              have HKp : Hid (∀ U, w4.grownBy U none → U.cell? ⟨gt, m, none⟩ = some (Value.slice qm (cf m) cpm) ∧ U.cell? ⟨gm, m, none⟩ = some (Value.int .i64 (MF m : Int))) := fun U hg => ⟨((Blk.grown HBt4.out hg).cell m).trans em, ((Blk.grown HBm4.out hg).cell m).trans (HCm.out m hlt)⟩
              have HPm := hideJ hpm
              have HT := hideJ (fun U hu => HTe.out m (Nat.zero_le _) hlt U hu)
              have HGd := hideJ (grown_trans' HGa.out (World.grownBy_drew _))
              have HJ := hideJ hlt
              have HF := hideJ (H15.out m hlt)
              skip
              clear em hpm hlt hj 
              go_upto_region 24 with (fail)
              go_region_held3 (fun V => V.cell? ⟨gt, m, none⟩ = some (Value.slice qm (cf m) cpm) ∧ V.cell? ⟨gm, m, none⟩ = some (Value.int .i64 (MF m : Int))) (first | with_reducible exact HKp.out _ HGa.out | with_reducible exact HKp.out _ HGd.out | with_reducible exact HKp.out _ HGb.out | with_reducible exact HKp.out _ HGc.out) (first
                | (go_at_call 23; (with_reducible refine Calls.mono (HT.out _ (HC4.out.grown HGd.out)) ?_); rintro e wb ⟨⟨qb, cb', rfl, hpb⟩, hg⟩; have HPb := hideJ hpb; have HGb := hideJ (grown_trans' HGd.out hg); clear hg hpb)
                | (go_at_call 27; (with_reducible refine Calls.mono (same_self _ _ _ _ _ _ _ HF.out (HPm.out.grown HGb.out) HPb.out) ?_); rintro e wc ⟨rfl, hg⟩; have HGc := hideJ (grown_trans' HGb.out hg); clear hg))
              go_wp2
              refine ⟨⟨m + 1, HJ.out, rfl, HGc.out⟩, ?_⟩
              simp only [intOf]; have := HJ.out; omega
            · obtain rfl : m = j := by omega
              have m1 : ¬ (m : Int) < (m : Int) := by omega
              have HCe := hideJ (HC4.out.grown HGa.out)
              clear hlt hj 
              obtain ⟨cn, hcn, hcv'⟩ := and_small kk 1023 (by omega)
              have hcv : bits .and .i64 kk 1023 = (cn : Int) := hcv'
              clear hcv'
              have hml : 1 ≤ m := by have := HMl.out; omega
              have hrm : (cn : Int).tmod (m : Int) = ((cn % m : Nat) : Int) := by rw [Int.tmod_eq_emod_of_nonneg (by omega)]; rfl
              have hrl : cn % m < m := Nat.mod_lt _ (by omega)
              have hm11 : m ≤ 11 := by have := HMl.out; have := HN.out; omega
              obtain ⟨t, ht⟩ : ∃ t, t = cn % m := ⟨_, rfl⟩
              rw [← ht] at hrm hrl
              have hwt : IntKind.i64.wrap (t : Int) = (t : Int) := by rw [IntKind.wrap_i64]; omega
              have z0 : (0 : Int) ≤ (t : Int) := by omega
              have z1 : (t : Int) < (m : Int) := by omega
              have z2 : ((m : Int) == 0) = false := by simp; omega
              have z3 : ¬ (m : Int) = 0 := by omega
              have HLt := hideJ hrl
              have hce := ((Blk.grown HBm4.out HGa.out).cell t).trans (HCm.out t hrl)
              have HCq := hideJ (fun U hu => HCp.out t hrl U hu)
              clear ht hml hrl hm11 hcn
              go_upto_region 29 with (go_at_call 22; (with_reducible refine Calls.mono (HCq.out _ HCe.out) ?_); rintro e w7 ⟨rfl, hk7, D7, k7, K7, c7, L7, N7, E7, P7, h7⟩; have HS7 := hideJ h7; have HK7 := hideJ ((Keeps.grown HGa.out).trans hk7); clear h7 hk7 hce)
              have HBm7 := hideJ (HK7.out _ _ _ okT3 HBm4.out)
              have HBt7 := hideJ (HK7.out _ _ _ okT57 HBt4.out)
              have HCt7 := hideJ (told_keeps HCt4.out HK7.out)
              have HC7 := hideJ HS7.out.cl
              have HTf := hideJ HS7.out.tells
              clear m1 hcv hrm hwt z1 z2 z3
              clear HGa HCe
              go_wp2
              go_loopw [15] (fun jv wr => ∃ u : Nat, t ≤ u ∧ u ≤ m ∧ jv = .int .i64 (u : Int) ∧ w7.grownBy wr none) (fun jv _ => m - (intOf jv).toNat)
              case atStart => exact ⟨t, Nat.le_refl _, Nat.le_of_lt HLt.out, rfl, grown_refl _⟩
              case round =>
                obtain ⟨u, hlo, hj, rfl, hgr⟩ := hrel
                have HGa := hideJ hgr
                clear hgr
                by_cases hlt : u < m
                · have m1 : (u : Int) < (m : Int) := by omega
                  have m0 : (0 : Int) ≤ (u : Int) := by omega
                  have hw1 : IntKind.i64.wrap ((u : Int) + 1) = (u : Int) + 1 := by have := HN.out; have := HMl.out; rw [IntKind.wrap_i64]; omega
                  obtain ⟨qm, cpm, em, hpm⟩ := HCt7.out u hlt
                  have HKp : Hid (∀ U, w7.grownBy U none → U.cell? ⟨gt, u, none⟩ = some (Value.slice qm (cf u) cpm) ∧ U.cell? ⟨gm, u, none⟩ = some (Value.int .i64 (MF u : Int))) := fun U hg => ⟨((Blk.grown HBt7.out hg).cell u).trans em, ((Blk.grown HBm7.out hg).cell u).trans (HCm.out u hlt)⟩
                  have HPm := hideJ hpm
                  have HT := hideJ (fun U hu => HTf.out u hlo hlt U hu)
                  have HGd := hideJ (grown_trans' HGa.out (World.grownBy_drew _))
                  have HJ := hideJ hlt
                  have HF := hideJ (H15.out u hlt)
                  have HLo := hideJ hlo
                  clear em hpm hlt hj hlo
                  go_upto_region 32 with (fail)
                  go_region_held3 (fun V => V.cell? ⟨gt, u, none⟩ = some (Value.slice qm (cf u) cpm) ∧ V.cell? ⟨gm, u, none⟩ = some (Value.int .i64 (MF u : Int))) (first | with_reducible exact HKp.out _ HGa.out | with_reducible exact HKp.out _ HGd.out | with_reducible exact HKp.out _ HGb.out | with_reducible exact HKp.out _ HGc.out) (first
                    | (go_at_call 23; (with_reducible refine Calls.mono (HT.out _ (HC7.out.grown HGd.out)) ?_); rintro e wb ⟨⟨qb, cb', rfl, hpb⟩, hg⟩; have HPb := hideJ hpb; have HGb := hideJ (grown_trans' HGd.out hg); clear hg hpb)
                    | (go_at_call 27; (with_reducible refine Calls.mono (same_self _ _ _ _ _ _ _ HF.out (HPm.out.grown HGb.out) HPb.out) ?_); rintro e wc ⟨rfl, hg⟩; have HGc := hideJ (grown_trans' HGb.out hg); clear hg))
                  go_wp2
                  refine ⟨⟨u + 1, Nat.le_trans HLo.out (Nat.le_succ _), HJ.out, rfl, HGc.out⟩, ?_⟩
                  simp only [intOf]; have := HJ.out; omega
                · obtain rfl : u = m := by omega
                  have m1 : ¬ (u : Int) < (u : Int) := by omega
                  have HCe := hideJ (HC7.out.grown HGa.out)
                  clear hlt hj hlo
                  have HMa := hideJ (fun U hu => mark_vz w U (D := D7) (i := k7) hu HS7.out.vz (by omega))
                  have HTa := hideJ (fun U hu => tell_vz w U (D := D7) (i := k7) hu HS7.out.vz (by omega) HS7.out.c15)
                  have HCa := hideJ (fun U hu => cp_end w U (D := D7) (i := k7) hu HS7.out.fuse HS7.out.vz (by omega) (by have := HS7.out.few; omega) HS7.out.pos)
                  have HFc := hideJ HS7.out.c15
                  clear HS7
                  go_wp2_with (first
                    | (go_at_call 16; (with_reducible refine Calls.mono (HMa.out _ HCe.out) ?_); rintro e wa ⟨rfl, hg⟩; have HCA := hideJ (HCe.out.grown hg); clear hg)
                    | (go_at_call 23; (with_reducible refine Calls.mono (HTa.out _ HCA.out) ?_); rintro e wb ⟨⟨qb, cpb, rfl, hpb⟩, hg⟩; have HPb := hideJ hpb; have HCB := hideJ (HCA.out.grown hg); clear hg hpb HTa)
                    | (go_at_call 22; (with_reducible refine Calls.mono (HCa.out _ HCB.out) ?_); rintro e wc ⟨rfl, hk, D9, k9, hcl, hvz⟩; have HPc := hideJ (HPb.out.keeps hk); have HCC := hideJ hcl; have HV9 := hideJ hvz; clear hk hcl hvz)
                    | (go_at_call 17; (with_reducible refine Calls.mono (marks_none w _ HCC.out HV9.out) ?_); rintro e wd ⟨⟨pd, cd, rfl⟩, hg⟩; have HPd := hideJ (HPc.out.grown hg); have HCD := hideJ (HCC.out.grown hg); clear hg)
                    | (go_at_call 23; (with_reducible refine Calls.mono (tell_none w _ HCD.out HFc.out HV9.out) ?_); rintro e we ⟨⟨qe, ce, rfl, hpe⟩, hg⟩; have HPe := hideJ hpe; have HPf := hideJ (HPd.out.grown hg); have HCE := hideJ (HCD.out.grown hg); clear hg hpe)
                    | (go_at_call 27; (with_reducible refine Calls.mono (same_self _ _ _ _ _ _ _ HFc.out HPe.out HPf.out) ?_); rintro e wf ⟨rfl, hg⟩; have HCF := hideJ (HCE.out.grown hg); clear hg)
                    | (go_at_call 7; (with_reducible refine Calls.mono (HAw.out _ HCF.out.bel) ?_); rintro e wg ⟨rfl, hb⟩; have HBg := hideJ hb; clear hb))
                  go_ret
                  exact ⟨rfl, HBg.out⟩
end Go.Proofs.YteocmhbllckpjaaGreat

namespace Go.Proofs.YteocmhbllckpjaaGreat
open Go.ChangeShapes Go.WideShapes Go.ChangeAt Go.RowKit Go.Deep
set_option linter.unusedVariables false

theorem ownF : ownKnob Tryz.prog.godebug = none := by kernel_rfl
theorem laidOutF : laidOutB Tryz.prog = true := by kernel_rfl
theorem cells64c : Tryz.prog.cellsOf 64 = 3 := by kernel_rfl
theorem cells3c : Tryz.prog.cellsOf 3 = 1 := by kernel_rfl
theorem cells4c : Tryz.prog.cellsOf 4 = 1 := by kernel_rfl
theorem cells62c : Tryz.prog.cellsOf 62 = 1 := by kernel_rfl
theorem cells5c : Tryz.prog.cellsOf 5 = 1 := by kernel_rfl
theorem three_of {α : Type} {l : List α} (h : l.length = 3) : ∃ a b c, l = [a, b, c] := by
  match l, h with
  | [a, b, c], _ => exact ⟨a, b, c, rfl⟩
theorem one_of {α : Type} {l : List α} (h : l.length = 1) : ∃ a, l = [a] := by
  match l, h with
  | [a], _ => exact ⟨a, rfl⟩
theorem u8_of {n : Int} (h : (Lit.int .u8 n).wf = true) : ∃ x : UInt8, n = (x.toNat : Int) := by
  simp only [Lit.wf, Bool.and_eq_true, decide_eq_true_eq] at h
  have e1 : IntKind.u8.min = 0 := by decide
  have e2 : IntKind.u8.max = 255 := by decide
  rw [e1, e2] at h
  refine ⟨UInt8.ofNat n.toNat, ?_⟩
  have : (UInt8.ofNat n.toNat).toNat = n.toNat % 256 := UInt8.toNat_ofNat'
  omega

theorem i64_le {n : Int} (h : (Lit.int .i64 n).wf = true) : n ≤ 9223372036854775807 := by
  simp only [Lit.wf, Bool.and_eq_true, decide_eq_true_eq] at h
  have e2 : IntKind.i64.max = 9223372036854775807 := by decide
  rw [e2] at h
  omega

set_option maxRecDepth 100000 in
theorem open_bytes {H : Type} {enc : TypeId × Value → H} {w : World} {fuel : Nat} {cs : List Value} {x : DataW H × List MemPlace} (h : DataW.trod enc Tryz.prog w 0 (fun _ => true) true fuel 62 cs = some x) :
    ∃ (p : Option Addr) (len cap : Nat) (B : Nat → UInt8), cs = [.slice p len cap] ∧ ByA w p len B := by
  rcases open_slice Tryz.underlying62 h with h0 | ⟨a, len, cap, m, n, D, Pl, rfl, hb, hl, hm, hmm, rfl, hx⟩
  · exact ⟨none, 0, 0, fun _ => 0, h0.1, fun h => by omega⟩
  simp only [if_true] at hmm
  by_cases h0 : len = 0
  · subst h0; exact ⟨some a, 0, cap, fun _ => 0, rfl, fun h => by omega⟩
  have each : ∀ i, i < m → ∃ q : UInt8, w.cell? (a.add i) = some (.int .u8 (q.toNat : Int)) := by
    intro i hi
    obtain ⟨cs', h1, h2⟩ := hx i hi
    rw [cells5c] at h1
    obtain ⟨_, hlen, hcell⟩ := World.cells?_some h1
    obtain ⟨v0, rfl⟩ := one_of hlen
    obtain ⟨p, e0, _, hwf⟩ := DataW.trod_int Tryz.underlying5 h2
    simp at e0
    subst e0
    obtain ⟨q, rfl⟩ := u8_of hwf
    have c0 := hcell 0 (by omega)
    rw [add_add] at c0
    exact ⟨q, by simpa using c0⟩
  obtain ⟨q, hq⟩ := choose_lt each
  obtain ⟨b, o, spot⟩ := a
  have hspot : spot = none := by simpa [Addr.add] using World.cell?_spot (hq 0 (by omega))
  subst hspot
  refine ⟨some ⟨b, o, none⟩, len, cap, q, rfl, fun _ => ⟨b, o, rfl, fun j hj => ?_⟩⟩
  have c0 := hq j (by omega)
  rw [add_plain] at c0
  exact c0
structure ChgV where
  m : Bool
  c : Int
  p : Option Addr
  n : Nat
  k : Nat
  B : Nat → UInt8
instance : Inhabited ChgV := ⟨⟨false, 0, none, 0, 0, fun _ => 0⟩⟩

set_option maxRecDepth 100000 in
theorem open_changes {H : Type} {enc : TypeId × Value → H} {w : World} {fuel : Nat} {cs : List Value} {x : DataW H × List MemPlace} (h : DataW.trod enc Tryz.prog w 0 (fun _ => true) true fuel 56 cs = some x) :
    ∃ (p : Option Addr) (len cap : Nat) (q : Nat → ChgV), cs = [.slice p len cap] ∧ ChH w p len (fun i => (q i).m) (fun i => (q i).c) (fun i => (q i).p) (fun i => (q i).n) (fun i => (q i).k) (fun i => (q i).B) := by
  rcases open_slice Tryz.underlying56 h with h0 | ⟨a, len, cap, m, n, D, Pl, rfl, hb, hl, hm, hmm, rfl, hx⟩
  · exact ⟨none, 0, 0, default, h0.1, fun h => by omega⟩
  simp only [if_true] at hmm
  by_cases h0 : len = 0
  · subst h0; exact ⟨some a, 0, cap, default, rfl, fun h => by omega⟩
  have each : ∀ i, i < m → ∃ q : ChgV, w.cell? (a.add (i * 3)) = some (.bool q.m) ∧ w.cell? (a.add (i * 3 + 1)) = some (.int .i64 q.c) ∧ w.cell? (a.add (i * 3 + 2)) = some (.slice q.p q.n q.k) ∧ ByA w q.p q.n q.B := by
    intro i hi
    obtain ⟨cs', h1, h2⟩ := hx i hi
    rw [cells64c] at h1
    obtain ⟨_, hlen, hcell⟩ := World.cells?_some h1
    obtain ⟨xs, k, hk, hxy, _, hxl, hf⟩ := DataW.trod_struct Tryz.underlying64 h2
    obtain ⟨y0, y1, y2, rfl⟩ := three_of (show xs.length = 3 from hxl)
    obtain ⟨v0, v1, v2, rfl⟩ := three_of hlen
    have g0 := hf 0 _ rfl
    have g1 := hf 1 _ rfl
    have g2 := hf 2 _ rfl
    simp [cells3c, cells4c, cells62c] at g0 g1 g2
    obtain ⟨z, e0, _⟩ := DataW.trod_bool Tryz.underlying4 g0
    obtain ⟨p, e1, _, _⟩ := DataW.trod_int Tryz.underlying3 g1
    obtain ⟨pb, nb, cb, B, e2, hB⟩ := open_bytes g2
    simp at e0 e1 e2
    subst e0 e1 e2
    have c0 := hcell 0 (by omega)
    have c1 := hcell 1 (by omega)
    have c2 := hcell 2 (by omega)
    rw [add_add] at c0 c1 c2
    exact ⟨⟨z, p, pb, nb, cb, B⟩, by simpa using c0, by simpa using c1, by simpa using c2, hB⟩
  obtain ⟨q, hq⟩ := choose_lt each
  obtain ⟨b, o, spot⟩ := a
  have hspot : spot = none := by simpa [Addr.add] using World.cell?_spot (hq 0 (by omega)).1
  subst hspot
  refine ⟨some ⟨b, o, none⟩, len, cap, q, rfl, fun _ => ⟨b, o, rfl, fun i hi => ?_⟩⟩
  obtain ⟨c0, c1, c2, c3⟩ := hq i (by omega)
  rw [add_plain] at c0 c1 c2
  exact ⟨c0, by rw [Nat.add_assoc]; exact c1, by rw [Nat.add_assoc]; exact c2, c3⟩

set_option maxRecDepth 100000 in
theorem open_choices {H : Type} {enc : TypeId × Value → H} {w : World} {fuel : Nat} {cs : List Value} {x : DataW H × List MemPlace} (h : DataW.trod enc Tryz.prog w 0 (fun _ => true) true fuel 32 cs = some x) :
    ∃ (p : Option Addr) (cap : Nat) (xs : List Int), cs = [.slice p xs.length cap] ∧ CoA w p xs ∧ xs.length ≤ cap := by
  rcases open_slice Tryz.underlying32 h with h0 | ⟨a, len, cap, m, n, D, Pl, rfl, hb, hl, hm, hmm, rfl, hx⟩
  · exact ⟨none, 0, [], h0.1, fun j x h => by simp at h, Nat.le_refl _⟩
  simp only [if_true] at hmm
  by_cases h0 : len = 0
  · subst h0; exact ⟨some a, cap, [], rfl, fun j x h => by simp at h, Nat.zero_le _⟩
  have each : ∀ i, i < m → ∃ q : Int, q ≤ 9223372036854775807 ∧ w.cell? (a.add i) = some (.int .i64 q) := by
    intro i hi
    obtain ⟨cs', h1, h2⟩ := hx i hi
    rw [cells3c] at h1
    obtain ⟨_, hlen, hcell⟩ := World.cells?_some h1
    obtain ⟨v0, rfl⟩ := one_of hlen
    obtain ⟨p, e0, _, hwf⟩ := DataW.trod_int Tryz.underlying3 h2
    simp at e0
    subst e0
    have c0 := hcell 0 (by omega)
    rw [add_add] at c0
    exact ⟨p, i64_le hwf, by simpa using c0⟩
  obtain ⟨q, hq⟩ := choose_lt each
  obtain ⟨b, o, spot⟩ := a
  have hspot : spot = none := by simpa [Addr.add] using World.cell?_spot (hq 0 (by omega)).2
  subst hspot
  refine ⟨some ⟨b, o, none⟩, cap, (List.range len).map q, by simp, fun j x hj => ?_, by simpa using hl⟩
  rw [List.getElem?_map] at hj
  by_cases hl : j < len
  · rw [List.getElem?_range hl] at hj
    simp at hj
    subst hj
    obtain ⟨h1, c0⟩ := hq j (by omega)
    rw [add_plain] at c0
    exact ⟨h1, b, o, rfl, c0⟩
  · rw [List.getElem?_eq_none (by simp; omega)] at hj
    simp at hj
set_option maxRecDepth 100000 in
theorem walAtomic_lifted (os : Os) (started : os.Started) (H : Type) (enc : TypeId × Value → H) :
    ReturnsInHanded {} Tryz.checked os 5 .any (Rows.walAtomicSpec.pre6 enc Tryz.prog Tryz.f5 Rows.walAtomicRow.domain false) (Rows.walAtomicSpec.post enc Tryz.prog Tryz.f5 false true false false) := by
  refine returnsInHanded_of_change (C := Tryz.checked) ownF started (by kernel_rfl) Tryz.func5
    (ChangeSpec.witness6 (enc := enc) (C := Tryz.checked) false ⟨#[], #[.slice none 0 0, .slice none 0 0, .slice none 0 0], []⟩ 8 (by kernel_rfl) (by kernel_rfl) (by kernel_rfl) (by kernel_rfl)) ?_
  intro W base args ds gs before hval0 hW hcnd _
  have hval : ∀ (j : Nat) t v, Tryz.f5.params[j]? = some t → args[j]? = some v → Value.okWide Tryz.prog W .any base t v := hval0
  have hW' := hW
  obtain ⟨p, q, hA0, hV, rfl, hfz, hnd⟩ := hW
  have hA : DataW.TrodAll enc Tryz.prog W 0 (fun _ => true) true Tryz.f5.params.toList args.toList ds p := hA0
  rw [Tryz.params5] at hA hval
  obtain ⟨v0, vs0, d0, ds0, p0, q0, hargs, rfl, rfl, h0, r0⟩ := trodAll_cons hA
  obtain ⟨v1, vs1, d1, ds1, p1, q1, rfl, rfl, rfl, h1, r1⟩ := trodAll_cons r0
  obtain ⟨v2, vs2, d2, ds2, p2, q2, rfl, rfl, rfl, h2, r2⟩ := trodAll_cons r1
  obtain ⟨rfl, rfl, rfl⟩ := trodAll_nil r2
  obtain rfl : args = #[v0, v1, v2] := by cases args; simp_all
  obtain ⟨rfl, rfl⟩ := trodVars_none hV
  obtain ⟨a0, len0, cap0, rfl⟩ := okWide_slice Tryz.underlying56 (hval 0 56 v0 rfl rfl)
  obtain ⟨a1, len1, cap1, rfl⟩ := okWide_slice Tryz.underlying32 (hval 1 32 v1 rfl rfl)
  obtain ⟨a2, len2, cap2, rfl⟩ := okWide_slice Tryz.underlying32 (hval 2 32 v2 rfl rfl)
  simp only [List.append_nil] at hW'
  have hlt0 : ∀ x ∈ p0, x.block < W.heap.size := fun x hx => hW'.lt x (by simp [hx])
  have h0k : DataW.Trod enc Tryz.prog W 0 (fun _ => true) true 56 (.slice a0 len0 cap0) d0 p0 := h0
  have hargs0 : ∀ (W' : World), Below W.heap.size W W' → DataW.Trod enc Tryz.prog W' 0 (fun b => decide (b < W.heap.size)) true 56 (.slice a0 len0 cap0) d0 p0 :=
    fun W' hn => Below.trod laidOutF (by kernel_rfl) (of_decide_eq_true (by kernel_rfl)) h0k hn hlt0
  have hlt1 : ∀ x ∈ p1, x.block < W.heap.size := fun x hx => hW'.lt x (by simp [hx])
  have h1k : DataW.Trod enc Tryz.prog W 0 (fun _ => true) true 32 (.slice a1 len1 cap1) d1 p1 := h1
  have hargs1 : ∀ (W' : World), Below W.heap.size W W' → DataW.Trod enc Tryz.prog W' 0 (fun b => decide (b < W.heap.size)) true 32 (.slice a1 len1 cap1) d1 p1 :=
    fun W' hn => Below.trod laidOutF (by kernel_rfl) (of_decide_eq_true (by kernel_rfl)) h1k hn hlt1
  have hlt2 : ∀ x ∈ p2, x.block < W.heap.size := fun x hx => hW'.lt x (by simp [hx])
  have h2k : DataW.Trod enc Tryz.prog W 0 (fun _ => true) true 32 (.slice a2 len2 cap2) d2 p2 := h2
  have hargs2 : ∀ (W' : World), Below W.heap.size W W' → DataW.Trod enc Tryz.prog W' 0 (fun b => decide (b < W.heap.size)) true 32 (.slice a2 len2 cap2) d2 p2 :=
    fun W' hn => Below.trod laidOutF (by kernel_rfl) (of_decide_eq_true (by kernel_rfl)) h2k hn hlt2
  clear hA0 hval0
  have hR0 : ∃ q : Nat → ChgV, ChH W a0 len0 (fun i => (q i).m) (fun i => (q i).c) (fun i => (q i).p) (fun i => (q i).n) (fun i => (q i).k) (fun i => (q i).B) := by
    obtain ⟨fuel, hf⟩ := h0
    obtain ⟨p', len', cap', q, hcs, hq⟩ := open_changes hf
    simp [Value.cells] at hcs
    obtain ⟨rfl, rfl, rfl⟩ := hcs
    exact ⟨q, hq⟩
  obtain ⟨q, hra⟩ := hR0
  have hR1 : ∃ xs : List Int, len1 = xs.length ∧ CoA W a1 xs ∧ len1 ≤ cap1 := by
    obtain ⟨fuel, hf⟩ := h1
    obtain ⟨p', cap', xs, hcs, hq, hl⟩ := open_choices hf
    simp [Value.cells] at hcs
    obtain ⟨rfl, rfl, rfl⟩ := hcs
    exact ⟨xs, rfl, hq, hl⟩
  obtain ⟨xs1, e1, hx1, hl1⟩ := hR1
  have hR2 : ∃ xs : List Int, len2 = xs.length ∧ CoA W a2 xs ∧ len2 ≤ cap2 := by
    obtain ⟨fuel, hf⟩ := h2
    obtain ⟨p', cap', xs, hcs, hq, hl⟩ := open_choices hf
    simp [Value.cells] at hcs
    obtain ⟨rfl, rfl, rfl⟩ := hcs
    exact ⟨xs, rfl, hq, hl⟩
  obtain ⟨xs2, e2, hx2, hl2⟩ := hR2
  subst e1
  refine (atomic_walk W a0 len0 cap0 _ _ _ _ _ _ hra a1 xs1 cap1 hx1 a2 xs2 len2 cap2 e2 hx2 hl2).mono fun e W' ⟨he, bel⟩ => ?_
  subst he
  have hfin : DataW.TrodAll enc Tryz.prog W' 0 (fun b => decide (b < W.heap.size)) true [56, 32, 32] [.slice a0 len0 cap0, .slice a1 xs1.length cap1, .slice a2 len2 cap2] [d0, d1, d2] (p0 ++ (p1 ++ p2)) := by
    simpa using (trodAll_cons_mk (hargs0 W' bel) (trodAll_cons_mk (hargs1 W' bel) (trodAll_cons_mk (hargs2 W' bel) trodAll_mk0)))
  exact ⟨_, rfl, _, _, _, [], _, [], hW', trodAll_mk1 (shut_bool Tryz.underlying4 _), hfin, rfl, bel.frame _, fun h => by cases h⟩

theorem walAtomic_holds : Rows.WalAtomicSaid :=
  OpenClaim.holds_of_wide 5 Tryz.f5 rfl rfl rfl rfl rfl rfl rfl ⟨rfl, rfl, rfl, rfl, rfl⟩ rfl rfl rfl rfl rfl (by kernel_rfl) Tryz.func5 (by kernel_rfl)
    (of_decide_eq_true (by kernel_rfl)) (by unfold Func.isWrapper; first | (rw [if_pos (by decide +kernel)]; kernel_rfl) | (rw [if_neg (by decide +kernel)]; exact ⟨rfl, rfl⟩))
    (fun os started H enc _ => walAtomic_lifted os started H enc)
#print axioms walAtomic_holds
end Go.Proofs.YteocmhbllckpjaaGreat

namespace Go.Proofs.YteocmhbllckpjaaGreat
open Go.ChangeShapes Go.WideShapes Go.ChangeAt Go.RowKit Go.Deep
set_option linter.unusedVariables false

set_option maxRecDepth 100000 in
theorem walStays_lifted (os : Os) (started : os.Started) (H : Type) (enc : TypeId × Value → H) :
    ReturnsInHanded {} Tryz.checked os 6 .any (Rows.walStaysSpec.pre6 enc Tryz.prog Tryz.f6 Rows.walStaysRow.domain false) (Rows.walStaysSpec.post enc Tryz.prog Tryz.f6 false true false false) := by
  refine returnsInHanded_of_change (C := Tryz.checked) ownF started (by kernel_rfl) Tryz.func6
    (ChangeSpec.witness6 (enc := enc) (C := Tryz.checked) false ⟨#[], #[.slice none 0 0, .int .i64 0], []⟩ 8 (by kernel_rfl) (by kernel_rfl) (by kernel_rfl) (by kernel_rfl)) ?_
  intro W base args ds gs before hval0 hW hcnd _
  have hval : ∀ (j : Nat) t v, Tryz.f6.params[j]? = some t → args[j]? = some v → Value.okWide Tryz.prog W .any base t v := hval0
  have hW' := hW
  obtain ⟨p, q, hA0, hV, rfl, hfz, hnd⟩ := hW
  have hA : DataW.TrodAll enc Tryz.prog W 0 (fun _ => true) true Tryz.f6.params.toList args.toList ds p := hA0
  rw [Tryz.params6] at hA hval
  obtain ⟨v0, vs0, d0, ds0, p0, q0, hargs, rfl, rfl, h0, r0⟩ := trodAll_cons hA
  obtain ⟨v1, vs1, d1, ds1, p1, q1, rfl, rfl, rfl, h1, r1⟩ := trodAll_cons r0
  obtain ⟨rfl, rfl, rfl⟩ := trodAll_nil r1
  obtain rfl : args = #[v0, v1] := by cases args; simp_all
  obtain ⟨rfl, rfl⟩ := trodVars_none hV
  obtain ⟨a0, len0, cap0, rfl⟩ := okWide_slice Tryz.underlying56 (hval 0 56 v0 rfl rfl)
  obtain ⟨a1, rfl, rfl, rfl, w1⟩ := open_int Tryz.underlying3 (hval 1 3 v1 rfl rfl) h1
  simp only [List.append_nil] at hW'
  have hlt0 : ∀ x ∈ p0, x.block < W.heap.size := fun x hx => hW'.lt x (by simp [hx])
  have h0k : DataW.Trod enc Tryz.prog W 0 (fun _ => true) true 56 (.slice a0 len0 cap0) d0 p0 := h0
  have hargs0 : ∀ (W' : World), Below W.heap.size W W' → DataW.Trod enc Tryz.prog W' 0 (fun b => decide (b < W.heap.size)) true 56 (.slice a0 len0 cap0) d0 p0 :=
    fun W' hn => Below.trod laidOutF (by kernel_rfl) (of_decide_eq_true (by kernel_rfl)) h0k hn hlt0
  clear hA0 hval0
  have hR0 : ∃ q : Nat → ChgV, ChH W a0 len0 (fun i => (q i).m) (fun i => (q i).c) (fun i => (q i).p) (fun i => (q i).n) (fun i => (q i).k) (fun i => (q i).B) := by
    obtain ⟨fuel, hf⟩ := h0
    obtain ⟨p', len', cap', q, hcs, hq⟩ := open_changes hf
    simp [Value.cells] at hcs
    obtain ⟨rfl, rfl, rfl⟩ := hcs
    exact ⟨q, hq⟩
  obtain ⟨q, hra⟩ := hR0
  refine (stays_walk W a0 len0 cap0 _ _ _ _ _ _ hra a1).mono fun e W' ⟨he, bel⟩ => ?_
  subst he
  have hfin : DataW.TrodAll enc Tryz.prog W' 0 (fun b => decide (b < W.heap.size)) true [56, 3] [.slice a0 len0 cap0, .int .i64 a1] [d0, .lit (.int .i64 a1)] p0 := by
    simpa using (trodAll_cons_mk (hargs0 W' bel) (trodAll_cons_mk (shut_int Tryz.underlying3 w1) trodAll_mk0))
  exact ⟨_, rfl, _, _, _, [], _, [], hW', trodAll_mk1 (shut_bool Tryz.underlying4 _), hfin, rfl, bel.frame _, fun h => by cases h⟩

theorem walStays_holds : Rows.WalStaysSaid :=
  OpenClaim.holds_of_wide 6 Tryz.f6 rfl rfl rfl rfl rfl rfl rfl ⟨rfl, rfl, rfl, rfl, rfl⟩ rfl rfl rfl rfl rfl (by kernel_rfl) Tryz.func6 (by kernel_rfl)
    (of_decide_eq_true (by kernel_rfl)) (by unfold Func.isWrapper; first | (rw [if_pos (by decide +kernel)]; kernel_rfl) | (rw [if_neg (by decide +kernel)]; exact ⟨rfl, rfl⟩))
    (fun os started H enc _ => walStays_lifted os started H enc)
#print axioms walStays_holds
end Go.Proofs.YteocmhbllckpjaaGreat
