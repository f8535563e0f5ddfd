/- The walk of DiskKeeps. -/
import Derived.Test.YtefcconbpomedaaW15
namespace Go.Proofs.Ytefcconbpomedaa
open Go.ChangeShapes Go.WideShapes Go.ChangeAt Go.RowKit
set_option linter.unusedVariables false

theorem KI.seenlen {D : DS} {i : Nat} (h : KI D i) (nm : ByteArray) : (seenOf D nm).length < 1048576 := by
  unfold seenOf
  cases hl : look D.fs nm with
  | none => simp
  | some f => have := (h.lens f (look_some hl).1).1; simp; omega
theorem KI.zero (mb : Nat) : KI (DS.fresh mb 200000) 0 :=
  ⟨fun f hf => by (simp [DS.fresh] at hf), by simp [DS.fresh], fun f hf => by (simp [DS.fresh] at hf), fun f hf => by (simp [DS.fresh] at hf), fun f hf => by (simp [DS.fresh] at hf), fun c hc => by (simp [DS.fresh] at hc), fun c hc => by (simp [DS.fresh] at hc), by simp [DS.fresh], rfl, rfl, by simp [DS.fresh], rfl, rfl, fun nm => rfl⟩
theorem info3 : ∃ i, Try.prog.info? 3 = some i ∧ i.zero = some (.int .i64 0) ∧ i.size = 1 ∧ i.bytes = 8 := infoOf (by kernel_rfl)

theorem CopyOf.sane {D D' : DS} (h : CopyOf D D') (S : Sane D) (hU : Uniq D.fs) : Sane { D' with down := true } := by
  refine ⟨fun c hc => S.sec c (h.chs ▸ hc), fun c hc => S.siz c (h.chs ▸ hc), fun f' hf' => ?_, fun c hc => ?_, ?_⟩
  · obtain ⟨f, hf, _, _, e⟩ := h.from_ f' hf'
    rw [← e]; exact S.kl f hf
  · obtain ⟨f, hf⟩ := S.nm c (h.chs ▸ hc)
    cases hl : look D'.fs c.name with
    | some g => exact ⟨g, rfl⟩
    | none =>
      have := (h.view hU c.name).2.2.1 hl
      rw [hf] at this
      cases this
  · show D'.chs.length ≤ _
    rw [h.chs]; exact S.few
set_option maxHeartbeats 8000000 in
set_option maxRecDepth 100000 in
theorem keeps_walk (w : World) (p1 : Option Addr) (n1 c1 : Nat) (A1 : Nat → Int) (S1 : Nat → ByteArray) (h1 : FP w p1 n1 A1 S1) (p2 : Option Addr) (n2 c2 : Nat) (A2 : Nat → Int) (S2 : Nat → ByteArray) (h2 : FP w p2 n2 A2 S2)
    (pc : Option Addr) (pcap : Nat) (xs : List Int) (hX : ∀ j x, xs[j]? = some x → x ≤ 9223372036854775807 ∧ ∃ g o, pc = some ⟨g, o, none⟩ ∧ w.cell? ⟨g, o + j, none⟩ = some (.int .i64 x)) :
    Calls Try.prog 5 #[.slice p1 n1 c1, .slice p2 n2 c2, .slice pc xs.length pcap] w fun e w' => e = .returned (.bool true) ∧ Below w.heap.size w w' := by
  have HAw := hide awake_any
  have HH1 := hide h1
  have HH2 := hide h2
  have HX := hide hX
  clear hX
  by_cases h20 : (20 : Int) < (n1 : Int)
  · clear h1 h2 HH1 HH2
    go_enter Try.func5, Try.ntmps5
    go_wp2_with (first
      | (go_at_call 22; refine Calls.mono (HAw.out _) ?_; rintro e w1 ⟨rfl, hb⟩; have Hb := hide hb; clear hb))
    go_ret
    exact ⟨rfl, Hb.out⟩
  by_cases h21 : (20 : Int) < (n2 : Int)
  · clear h1 h2 HH1 HH2
    go_enter Try.func5, Try.ntmps5
    go_wp2_with (first
      | (go_at_call 22; refine Calls.mono (HAw.out _) ?_; rintro e w1 ⟨rfl, hb⟩; have Hb := hide hb; clear hb))
    go_ret
    exact ⟨rfl, Hb.out⟩
  have HL1 := hide (long_any w p1 n1 c1 A1 S1 h1 (by omega))
  have HL2 := hide (long_any w p2 n2 c2 A2 S2 h2 (by omega))
  clear h1 h2
  by_cases hlong : LongF n1 S1
  · go_enter Try.func5, Try.ntmps5
    go_wp2_with (first
      | (go_at_call 26; refine Calls.mono HL1.out ?_; rintro e w1 ⟨⟨x, rfl, hx⟩, rfl⟩; obtain rfl := hx.2 hlong; clear hx HL1 HL2)
      | (go_at_call 22; refine Calls.mono (HAw.out _) ?_; rintro e w1 ⟨rfl, hb⟩; have Hb := hide hb; clear hb))
    all_goals (try go_wp2_with (first
      | (go_at_call 22; refine Calls.mono (HAw.out _) ?_; rintro e w1 ⟨rfl, hb⟩; have Hb := hide hb; clear hb)))
    go_ret
    exact ⟨rfl, Hb.out⟩
  by_cases hlong2 : LongF n2 S2
  · go_enter Try.func5, Try.ntmps5
    go_wp2_with (first
      | (go_at_call 26; with_reducible refine Calls.mono HL1.out ?_; rintro e w1 ⟨⟨x, rfl, hx⟩, rfl⟩; obtain rfl : x = false := by cases x with | false => rfl | true => exact absurd (hx.1 rfl) hlong)
      | (go_at_call 26; with_reducible refine Calls.mono HL2.out ?_; rintro e w1 ⟨⟨x, rfl, hx⟩, rfl⟩; obtain rfl := hx.2 hlong2)
      | (go_at_call 22; refine Calls.mono (HAw.out _) ?_; rintro e w1 ⟨rfl, hb⟩; have Hb := hide hb; clear hb))
    all_goals (try go_wp2_with (first
      | (go_at_call 22; refine Calls.mono (HAw.out _) ?_; rintro e w1 ⟨rfl, hb⟩; have Hb := hide hb; clear hb)))
    go_ret
    exact ⟨rfl, Hb.out⟩
  have HN1 : Hid (∀ i, i < n1 → (S1 i).size ≤ 2000) := fun i hi => Nat.le_of_not_lt fun hc => hlong ⟨i, hi, hc⟩
  have HN2 : Hid (∀ i, i < n2 → (S2 i).size ≤ 2000) := fun i hi => Nat.le_of_not_lt fun hc => hlong2 ⟨i, hi, hc⟩
  have HNew := hide (new_any w 200000 (by decide))
  have HK0 := hide (KI.zero w.heap.size)
  have hn1 : n1 ≤ 20 := by omega
  have hn2 : n2 ≤ 20 := by omega
  have HF1 : Hid (∀ V, Below w.heap.size w V → ∀ U, Below w.heap.size V U → FP U p1 n1 A1 S1) := fun V hV U hU => HH1.out.later (hV.trans hU)
  have HF2 : Hid (∀ V, Below w.heap.size w V → ∀ U, Below w.heap.size V U → FP U p2 n2 A2 S2) := fun V hV U hU => HH2.out.later (hV.trans hU)
  have HGB : Hid (∀ V U, Below w.heap.size w V → V.grownBy U none → Below w.heap.size w U) := fun V U h g => h.trans ((Only.of_grown g).below h.size (by simp))
  go_enter Try.func5, Try.ntmps5
  go_upto_region 16 with (first
    | (go_at_call 26; with_reducible refine Calls.mono HL1.out ?_; rintro e w1 ⟨⟨x, rfl, hx⟩, rfl⟩; obtain rfl : x = false := by cases x with | false => rfl | true => exact absurd (hx.1 rfl) hlong)
    | (go_at_call 26; with_reducible refine Calls.mono HL2.out ?_; rintro e w1 ⟨⟨x, rfl, hx⟩, rfl⟩; obtain rfl : x = false := by cases x with | false => rfl | true => exact absurd (hx.1 rfl) hlong2)
    | (go_at_call 27; with_reducible refine Calls.mono HNew.out ?_; rintro e w2 ⟨rfl, hg2, who2, hR2⟩; have HB2 := hide (HGB.out w w2 (Below.refl _ _) hg2); have C1 := hide (wrote_any w2 _ _ _ _ hR2 HK0.out (by omega) nmA (.inl rfl) p1 n1 c1 A1 S1 (HF1.out w2 HB2.out) hn1 HN1.out); clear hg2 hR2)
    | (go_at_call 28; with_reducible refine Calls.mono C1.out ?_; rintro e w3 ⟨rfl, hb3, D1, who3, hR3, hK1, hO1⟩; have HK1 := hide hK1; have HB3 := hide (HB2.out.trans hb3); have C2 := hide (sync_up w3 _ _ D1 who3 hR3 (hK1.sane (by omega)) (hK1.fine (by omega)) hK1.down (by rw [hK1.fuse]; decide) nmA); clear hb3 hR3 hK1 hO1 C1)
    | (go_at_call 13; with_reducible refine Calls.mono C2.out ?_; rintro e w4 ⟨rfl, hb4, D2, who4, hR4, hK2⟩; have HR4 := hide hR4; have HK2 := hide (HK1.out.sync hK2); have HB4 := hide (HB3.out.trans hb4); have C3 := hide (Read_whole w4 _ _ D2 who4 hR4 HK2.out.1.down nmA (HK2.out.1.seenlen nmA)); clear hb4 hR4 hK2 C2)
    | (go_at_call 7; with_reducible refine Calls.mono C3.out ?_; rintro e w5 ⟨rfl, hg5⟩; have HB5 := hide (HGB.out w4 w5 HB4.out hg5); have C4 := hide (wrote_any w5 _ _ D2 who4 (HR4.out.keep hg5) HK2.out.1 (by omega) nmB (.inr rfl) p2 n2 c2 A2 S2 (HF2.out w5 HB5.out) hn2 HN2.out); clear hg5 C3)
    | (go_at_call 28; with_reducible refine Calls.mono C4.out ?_; rintro e w6 ⟨rfl, hb6, D3, who6, hR6, hK3, hO3⟩; have HR6 := hide hR6; have HK3 := hide hK3; have HO3 := hide hO3; have HB6 := hide (HB5.out.trans hb6); have C5 := hide (Read_whole w6 _ _ D3 who6 hR6 hK3.down nmB (hK3.seenlen nmB)); clear hb6 hR6 hK3 hO3 C4)
    | (go_at_call 7; with_reducible refine Calls.mono C5.out ?_; rintro e w7 ⟨rfl, hg7⟩; have HR7 := hide (HR6.out.keep hg7); have HB7 := hide (HGB.out w6 w7 HB6.out hg7); have C6 := hide (pending_any w7 _ _ D3 who6 HR7.out); have C7 := hide (copy_any w7 _ _ D3 who6 HR7.out HK3.out.uniq (fun f hf => by have := (HK3.out.lens f hf).1; omega) (fun f hf => by have := (HK3.out.lens f hf).2; omega) (by have := HK3.out.few; omega)); clear hg7 C5)
    | (go_at_call 19; with_reducible refine Calls.mono C6.out ?_; rintro e w8 ⟨rfl, rfl⟩; clear C6)
    | (go_at_call 21; with_reducible refine Calls.mono C7.out ?_; rintro e w8 ⟨b8, D4, who8, rfl, hR8, hC8, hg8⟩; have HRo8 := hide hR8; have HC8 := hide hC8; have HR8 := hide (HR7.out.keep hg8); have HB8 := hide (HGB.out w7 w8 HB7.out hg8); have C8 := hide (crash_only HR8.out); clear hR8 hC8 hg8 C7)
    | (go_at_call 10; with_reducible refine Calls.mono C8.out ?_; rintro e w9 ⟨rfl, hR9, hO9⟩; have HR9 := hide hR9; have HO9 := hide hO9; have HRo9 := hide (HRo8.out.apart hO9 (fun k hk hm => by have h1 := (HRo8.out.foot hk).1; have h2 := HR7.out.blk.lt; simp at hm; omega)); have C9 := hide (crash_only HRo9.out); clear hR9 hO9 C8)
    | (go_at_call 10; with_reducible refine Calls.mono C9.out ?_; rintro e w10 ⟨rfl, hR10, hO10⟩; have HRo10 := hide hR10; have HO10 := hide hO10; have HR10 := hide (HR9.out.apart hO10 (fun k hk hm => by have h1 := (HR7.out.foot (foot_down hk)).2; have h2 := HRo8.out.lowb; simp at hm; omega)); clear hR10 hO10 C9))
  have HNc : Hid (D3.chs.length ≤ 2000) := by have := HK3.out.few; show D3.chs.length ≤ 2000; omega
  have hNc : D3.chs.length ≤ 2000 := HNc.out
  obtain ⟨C, hC⟩ : ∃ C, C = w10.heap.size := ⟨_, rfl⟩
  have HCe := hide hC
  clear hC
  go_loopw [14, 15] (fun av iv wr => ∃ j : Nat, j ≤ D3.chs.length ∧ iv = .int .i64 (j : Int) ∧ wr.ownsRow C 3 1 av j (List.replicate j (.int .i64 1)) ∧ Below C w10 wr) (fun _ iv _ => D3.chs.length - (intOf iv).toNat)
  case atStart => exact ⟨0, Nat.zero_le _, rfl, World.ownsRow_nil _ _ _ _, Below.refl _ _⟩
  case round =>
    obtain ⟨j, hj, rfl, ho, hb⟩ := hrel
    obtain ⟨a, c, rfl⟩ := ownsRow_form ho
    have HO := hide ho
    have HB := hide hb
    clear ho hb
    by_cases hlt : j < D3.chs.length
    · have l1 : (j : Int) < (D3.chs.length : Int) := by omega
      have hw1 : IntKind.i64.wrap ((j : Int) + 1) = (j : Int) + 1 := by rw [IntKind.wrap_i64]; omega
      have hCw : C ≤ wr.heap.size := by rw [HCe.out]; exact HB.out.size
      have hgA := World.grownBy_alloc wr (.cells #[.int .i64 1] 3) none
      obtain ⟨v', w', hap, h2, h3⟩ : ∃ v' w', (∀ ty, (Builtin.append_ #[48, 48] ty #[.slice a j c, .slice (some ⟨wr.heap.size, 0, none⟩) 1 1]).run Try.prog (wr.alloc (.cells #[.int .i64 1] 3)) = .ok v' w') ∧ w'.ownsRow C 3 1 v' (j + 1) (List.replicate (j + 1) (.int .i64 1)) ∧ (wr.alloc (.cells #[.int .i64 1] 3)).grownBy w' (Value.slice a j c).ownBlock := by
        obtain ⟨i, hi, hz, hsz, hby⟩ := info3
        have hn : Blk (wr.alloc (.cells #[.int .i64 1] 3)) wr.heap.size #[.int .i64 1] 3 := alloc_new _ _
        have key := fun ty => app_own (P := Try.prog) (wr.alloc (.cells #[.int .i64 1] 3)) C 48 ty 3 i _ 1 8 Try.underlying48 hi hz hsz hby rfl (by omega) (.slice a j c) j (List.replicate j (.int .i64 1)) (ownsRow_only HO.out (Only.of_grown hgA) (fun g hg => by simp)) ⟨wr.heap.size, 0, none⟩ 1 1 (by omega) [.int .i64 1] rfl (fun k u hk => by
            cases k with
            | zero => cases hk; exact (hn.cell 0).trans rfl
            | succ k => cases hk) (fun u hu => by obtain rfl := List.mem_singleton.1 hu; rfl) (by simp only [maxLen]; omega) (by omega) (by simp; omega)
        obtain ⟨v', w', hrun, ho', hg', _⟩ := key 0
        refine ⟨v', w', fun ty => hrun, ?_, hg'⟩
        rw [List.replicate_succ']
        exact ho'
      have HAp := hide hap
      have HE := hide (And.intro h2 h3)
      clear hap h2 h3
      go_wp2_with (refine wp_run2 (by rfl) _ _ 48 48 (by rfl) _ _ v' w' (by rfl) (by rfl) (HAp.out _) ?_)
      refine ⟨⟨j + 1, hlt, rfl, HE.out.1, ?_⟩, ?_⟩
      · refine (HB.out.trans ((Only.of_grown hgA).below hCw (by simp))).trans ((Only.of_grown HE.out.2).below (by simp; omega) (fun k hk => (own_lt HO.out k (by simpa using hk)).1))
      · simp only [intOf]; omega
    · obtain rfl : j = D3.chs.length := by omega
      have hFd : ∀ k, Foot (w.heap.size + 1) D3 k → k < w7.heap.size := fun k hk => (HR7.out.foot hk).2
      have hFo : ∀ k, Foot b8 D4 k → w7.heap.size ≤ k ∧ k < C := fun k hk => ⟨(HRo8.out.foot hk).1, by rw [HCe.out]; exact (HRo10.out.foot (D := { D4 with down := true }) hk).2⟩
      have hCw : C ≤ wr.heap.size := by rw [HCe.out]; exact HB.out.size
      have h7C : w7.heap.size ≤ C := by have h1 := HRo8.out.lowb; have h2 := hFo b8 (.inl rfl); omega
      have hbC : w.heap.size ≤ w7.heap.size := HB7.out.size
      have R11 : Rep wr w.heap.size (w.heap.size + 1) { D3 with down := true } who6 := HR10.out.low (B := C) (fun k hk => by have := hFd k hk; omega) HB.out
      have Ro11 : Rep wr w7.heap.size b8 { D4 with down := true } who8 := HRo10.out.low (B := C) (fun k hk => (hFo k hk).2) HB.out
      have hB11 : Below w.heap.size w wr := by
        have x1 : Below w.heap.size w8 w9 := HO9.out.below HB8.out.size (fun k hk => by have : k = w.heap.size + 1 := (by simpa using hk); omega)
        have x2 : Below w.heap.size w9 w10 := HO10.out.below (HB8.out.trans x1).size (fun k hk => by have e : k = b8 := (by simpa using hk); have := HRo8.out.lowb; omega)
        exact ((HB8.out.trans x1).trans x2).trans ⟨HB.out.os, HB.out.tape, HB.out.output, HB.out.size, fun k hk => HB.out.block k (by omega)⟩
      have S3 := HK3.out.sane (by omega)
      have C10 := hide (restart_moves wr w.heap.size (w.heap.size + 1) { D3 with down := true } who6 R11 ⟨S3.sec, S3.siz, S3.kl, S3.nm, S3.few⟩ HK3.out.uniq rfl (by show 0 ≤ D3.starts ∧ D3.starts ≤ 2000000; rw [HK3.out.starts]; omega) pc pcap xs (fun j => (xs[j]?).getD 0) (fun _ => rfl) (fun j x hx => by
        obtain ⟨y1, g, o, y2, y3⟩ := HX.out j x hx
        have hg : g < w.heap.size := World.block_lt_of_cell? w _ y3
        exact ⟨y1, g, o, y2, Nat.lt_of_lt_of_le hg hB11.size, fun hf => by have := (R11.foot hf).1; omega, cell_laterD hB11 y3⟩))
      have HAll : Hid (∀ w12 D9, Moves (w.heap.size + 1) { D3 with down := true } wr D9 w12 → ∀ j x, (List.replicate D3.chs.length (1 : Int))[j]? = some x → x ≤ 9223372036854775807 ∧ ∃ g o, a = some ⟨g, o, none⟩ ∧ g < w12.heap.size ∧ ¬ Foot b8 { D4 with down := true } g ∧ w12.cell? ⟨g, o + j, none⟩ = some (.int .i64 x)) := fun w12 D9 hM j x hx => by
        obtain ⟨hj', rfl⟩ : j < D3.chs.length ∧ x = 1 := by
          rw [List.getElem?_replicate] at hx
          split at hx
          · cases hx; exact ⟨by assumption, rfl⟩
          · cases hx
        have ho := HO.out
        rcases ho.2 with ⟨hv, hz⟩ | ⟨g, cap', cur, hv, hCg, hgb, _⟩
        · omega
        · cases hv
          have hlt' : g < wr.heap.size := (Array.getElem?_eq_some_iff.1 hgb).1
          have hc := ho.cells (g := g) rfl j (.int .i64 1) (by rw [List.getElem?_replicate, if_pos hj'])
          rw [Addr.add_lit] at hc
          refine ⟨by decide, g, 0, rfl, Nat.lt_of_lt_of_le hlt' hM.size, fun hf => by have := (hFo g hf).2; omega, ?_⟩
          rw [World.cell?_of_block (a := ⟨g, 0 + j, none⟩) (hM.keep g hlt' (fun hf => by have := hFd g hf; omega))]
          exact hc
      have HRo11 := hide Ro11
      have HR11 := hide R11
      have HFd := hide hFd
      have HFo := hide hFo
      have HS4 := hide (HC8.out.sane S3 HK3.out.uniq)
      have HB11 := hide hB11
      have HSz := hide (And.intro hCw h7C)
      have HFix : Hid (∀ w12 D9 who9, Rep w12 w.heap.size (w.heap.size + 1) D9 who9 → Moves (w.heap.size + 1) { D3 with down := true } wr D9 w12 → Calls Try.prog 14 #[.pointer (some ⟨b8, 0, none⟩), .slice a D3.chs.length c] w12 fun e w' => e = .returned (.int .i64 0) ∧ (∃ D10 who10, Rep w' w7.heap.size b8 D10 who10 ∧ Restc { D4 with down := true } D10 (fun j => ((List.replicate D3.chs.length (1 : Int))[j]?).getD 0)) ∧ Rep w' w.heap.size (w.heap.size + 1) D9 who9 ∧ Below w7.heap.size w12 w') := fun w12 D9 who9 hR12 hM12 => by
        have Ro12 := hM12.rep HRo11.out (fun k hk hf => by have h1 := (HFo.out k hk).1; have h2 := HFd.out k hf; omega)
        have := restart_moves w12 w7.heap.size b8 { D4 with down := true } who8 Ro12 HS4.out HC8.out.uniq rfl (by show 0 ≤ D4.starts ∧ D4.starts ≤ 2000000; rw [HC8.out.starts, HK3.out.starts]; omega) a c (List.replicate D3.chs.length 1) (fun j => ((List.replicate D3.chs.length (1 : Int))[j]?).getD 0) (fun _ => rfl) (HAll.out w12 D9 hM12)
        rw [List.length_replicate] at this
        refine this.mono ?_
        rintro e w' ⟨e1, D10, who10, r1, r2, r3⟩
        exact ⟨e1, ⟨D10, who10, r1, r2⟩, r3.rep hR12 (fun k hk hf => by
          have h1 := HFo.out k hf
          have h2 := HFd.out k (hM12.sub k (by have := HSz.out.1; omega) hk)
          omega), r3.below Ro12⟩
      have HTail : Hid (∀ w13 D9 who9 D10 who10, Rep w13 w.heap.size (w.heap.size + 1) D9 who9 → Rep w13 w7.heap.size b8 D10 who10 → Restc { D3 with down := true } D9 (fun j => (xs[j]?).getD 0) → Restc { D4 with down := true } D10 (fun j => ((List.replicate D3.chs.length (1 : Int))[j]?).getD 0) →
          Calls Try.prog 17 #[.pointer (some ⟨w.heap.size + 1, 0, none⟩)] w13 (fun e w' => e = .returned (.bool false) ∧ w13 = w') ∧ Calls Try.prog 19 #[.pointer (some ⟨w.heap.size + 1, 0, none⟩)] w13 (fun e w' => e = .returned (.int .i64 0) ∧ w13 = w') ∧
          (∀ V, w13.grownBy V none → Calls Try.prog 7 #[.pointer (some ⟨w.heap.size + 1, 0, none⟩), .string nmA, .int .i64 0, .int .i64 1048576] V fun e w' => e = .returned (.tuple #[.string (bstr (seenOf D2 nmA)), .int .i64 0]) ∧ V.grownBy w' none) ∧
          (∀ V, w13.grownBy V none → Calls Try.prog 7 #[.pointer (some ⟨b8, 0, none⟩), .string nmA, .int .i64 0, .int .i64 1048576] V fun e w' => e = .returned (.tuple #[.string (bstr (seenOf D2 nmA)), .int .i64 0]) ∧ V.grownBy w' none) ∧
          (∀ V, w13.grownBy V none → Calls Try.prog 7 #[.pointer (some ⟨b8, 0, none⟩), .string nmB, .int .i64 0, .int .i64 1048576] V fun e w' => e = .returned (.tuple #[.string (bstr (seenOf D3 nmB)), .int .i64 0]) ∧ V.grownBy w' none)) := fun w13 D9 who9 D10 who10 r1 r2 r3 r4 => by
        obtain ⟨e1, e2, e3⟩ := keeps_end HK2.out.1 HK3.out HO3.out (HK2.out.2.2.1.trans (HK2.out.2.1 nmA).symm) HK2.out.2.2.2 HC8.out r3 r4 HRo8.out.nodup (fun x hx => by simp [hx])
        refine ⟨?_, ?_, fun V hV => ?_, fun V hV => ?_, fun V hV => ?_⟩
        · have := down_any w13 _ _ D9 who9 r1
          rw [r3.down] at this
          exact this
        · have := pending_any w13 _ _ D9 who9 r1
          rw [r3.chs] at this
          exact this
        · have := Read_whole V _ _ D9 who9 (r1.keep hV) r3.down nmA (by rw [e1]; exact HK2.out.1.seenlen nmA)
          rw [e1] at this
          exact this
        · have := Read_whole V _ _ D10 who10 (r2.keep hV) r4.down nmA (by rw [e2]; exact HK2.out.1.seenlen nmA)
          rw [e2] at this
          exact this
        · have := Read_whole V _ _ D10 who10 (r2.keep hV) r4.down nmB (by rw [e3]; exact HK3.out.seenlen nmB)
          rw [e3] at this
          exact this
      have HbC := hide hbC
      clear hFd hFo R11 Ro11 hB11 S3 hCw h7C hbC
      go_wp2_with (first
        | (go_at_call 14; with_reducible refine Calls.mono C10.out ?_; rintro e w12 ⟨rfl, D9, who9, hR12, hC9, hM12⟩; have HC9 := hide hC9; have HM12 := hide hM12; have C11 := hide (HFix.out w12 D9 who9 hR12 hM12); clear hR12 hC9 hM12 C10)
        | (go_at_call 14; with_reducible refine Calls.mono C11.out ?_; rintro e w13 ⟨rfl, ⟨D10, who10, hRo13, hC10⟩, hR13, hb13⟩; have Hb13 := hide hb13; have HT := hide (HTail.out w13 D9 who9 D10 who10 hR13 hRo13 HC9.out hC10); clear hRo13 hC10 hR13 hb13 C11)
        | (go_at_call 17; with_reducible refine Calls.mono HT.out.1 ?_; rintro e wx ⟨rfl, rfl⟩)
        | (go_at_call 19; with_reducible refine Calls.mono HT.out.2.1 ?_; rintro e wx ⟨rfl, rfl⟩; have C12 := hide (HT.out.2.2.1 w13 ⟨rfl, rfl, rfl, Nat.le_refl _, fun _ _ _ => rfl⟩))
        | (go_at_call 7; with_reducible refine Calls.mono C12.out ?_; rintro e w14 ⟨rfl, hg14⟩; have HG14 := hide hg14; have C13 := hide (HT.out.2.2.2.1 w14 hg14); clear hg14 C12)
        | (go_at_call 7; with_reducible refine Calls.mono C13.out ?_; rintro e w15 ⟨rfl, hg15⟩; have HG15 := hide (grown_trans' HG14.out hg15); have C14 := hide (HT.out.2.2.2.2 w15 HG15.out); clear hg15 C13)
        | (go_at_call 7; with_reducible refine Calls.mono C14.out ?_; rintro e w16 ⟨rfl, hg16⟩; have HG16 := hide (grown_trans' HG15.out hg16); clear hg16 C14)
        | (go_at_call 22; refine Calls.mono (HAw.out _) ?_; rintro e w17 ⟨rfl, hb⟩; have Hb17 := hide hb; clear hb))
      go_ret
      have z0 := HB11.out
      have z1 := HM12.out.below HR11.out
      have z2 : Below w.heap.size w12 w13 := ⟨Hb13.out.os, Hb13.out.tape, Hb13.out.output, Hb13.out.size, fun k hk => Hb13.out.block k (by have := HbC.out; omega)⟩
      have z3 := HGB.out w13 w16 ((z0.trans z1).trans z2) HG16.out
      exact ⟨rfl, z3.trans ⟨Hb17.out.os, Hb17.out.tape, Hb17.out.output, Hb17.out.size, fun k hk => Hb17.out.block k (Nat.lt_of_lt_of_le hk z3.size)⟩⟩
end Go.Proofs.Ytefcconbpomedaa
