/- A disk is copied. -/
import Derived.Test.YtefcconbpomedaaW10
namespace Go.Proofs.Ytefcconbpomedaa
open Go.ChangeShapes Go.WideShapes Go.ChangeAt Go.RowKit
open Go.ChangeMaps (setBlock)
set_option linter.unusedVariables false

set_option maxHeartbeats 8000000 in
set_option maxRecDepth 100000 in
theorem copy_any (w : World) (base b : Nat) (D : DS) (who : Nat → Nat) (R : Rep w base b D who) (hU : Uniq D.fs) (hs : ∀ f ∈ D.fs, f.seen.length ≤ 1048576) (hk : ∀ f ∈ D.fs, f.kept.length ≤ 1048576) (hch : D.chs.length ≤ 1000000000) :
    Calls Try.prog 21 #[.pointer (some ⟨b, 0, none⟩)] w fun e w' => ∃ b' D' who', e = .returned (.pointer (some ⟨b', 0, none⟩)) ∧ Rep w' w.heap.size b' D' who' ∧ CopyOf D D' ∧ w.grownBy w' none := by
  have HM := hide (made_rep w base b D who R)
  have h0c : w.cell? ⟨b, 0, none⟩ = some (.map (some D.mb)) := (R.blk.cell 0).trans rfl
  have hlen : ∀ ty, (Builtin.len_ #[60] ty #[.map (some D.mb)]).run Try.prog w = .ok (.int .i64 (D.fs.length : Int)) w := fun ty => by
    have hm := R.map
    simp [Builtin.len_, run_underlying Try.underlying60, MapKept.run_getObj_map hm, goInt, Result.andThen, ents]
  have hmk : ∀ W : World, (Instr.makeMap 60 (some (.int .i64 (D.fs.length : Int)))).run Try.prog W = .ok (.map (some W.heap.size)) (W.alloc (.map #[] 0)) := fun W => by
    simp [Instr.makeMap, asInt, Result.andThen]
    rfl
  have HR := hide R
  have HU := hide hU
  have HSl := hide hs
  have HKl := hide hk
  have HCh := hide hch
  have hA := World.grownBy_alloc w (.map #[] 0) none
  have hR0 := R.keep hA
  have h0d : (w.alloc (.map #[] 0)).cell? ⟨b, 0, none⟩ = some (.map (some D.mb)) := (hR0.blk.cell 0).trans rfl
  have hrg := run_range_map (P := Try.prog) (w.alloc (.map #[] 0)) 60 9 79 D.mb (ents D.fs) D.clock Try.underlying60 hR0.map
  have HA := hide hA
  obtain ⟨NM, hNM⟩ : ∃ NM, NM = w.heap.size := ⟨_, rfl⟩
  obtain ⟨I, hI⟩ : ∃ I, I = (w.alloc (.map #[] 0)).heap.size := ⟨_, rfl⟩
  have hIN : I = NM + 1 := by rw [hI, hNM]; simp
  have HA0 : Hid (((w.alloc (.map #[] 0)).alloc (.mapIter (some D.mb) D.clock #[] D.clock)).heap[I]? = some (.mapIter (some D.mb) D.clock #[] D.clock)) := by rw [hI]; exact alloc_new _ _
  have hF0 : Fls (w.alloc (.map #[] 0)) w.heap.size NM [] 0 (fun _ => 1) := 
    { map := by rw [hNM]; exact alloc_new _ _
      born := by simp
      nodup := by simp
      ent := by simp
      osv := by simp
      okv := by simp
      lowm := by omega
      lowe := by simp
      wm := rfl
      we := by simp
      ws := by simp
      wk := by simp }
  have HF0 := hide (hF0.keep (World.grownBy_alloc _ (.mapIter (some D.mb) D.clock #[] D.clock) none))
  have HG0 := hide (grown_trans' hA (World.grownBy_alloc _ (.mapIter (some D.mb) D.clock #[] D.clock) none))
  have HI0 : Hid (CopI D #[] []) := ⟨by simp, by simp, fun f hf => by cases hf⟩
  have HNM := hide hNM
  have HIN := hide hIN
  clear R hU hs hk hch hA hR0 hF0 hIN
  go_enter Try.func21, Try.ntmps21
  go_upto_region 5 with (first
    | (go_at_call 32; refine Calls.mono HM.out ?_; rintro e w1 ⟨rfl, rfl⟩))
  rw [show w.heap.size + 1 = I by rw [hI]; simp, ← hNM]
  clear hI hNM
  go_loopw [4] (fun _ w2 => ∃ (seen : Array Nat) (fs : List FL) (clk : Nat) (whok : Nat → Nat), w2.heap[I]? = some (.mapIter (some D.mb) D.clock seen D.clock) ∧ Fls w2 w.heap.size NM fs clk whok ∧ CopI D seen fs ∧ w.grownBy w2 none) (fun _ w2 => (leftOf (ents D.fs) (w2.iterSeen I)).size)
  case atStart => exact ⟨#[], [], 0, _, HA0.out, HF0.out, HI0.out, HG0.out⟩
  case round =>
    obtain ⟨seen, fs, clk, whok, hit, hFk, hIk, hGk⟩ := hrel
    have hRk := HR.out.keep hGk
    have hm1 : wr.heap[D.mb]? = some (.map (ents D.fs) D.clock) := hRk.map
    have hold : ∀ x ∈ (ents D.fs).toList, x.born < D.clock := fun x hx => by obtain ⟨f, hf, rfl⟩ := mem_ents hx; exact hRk.born f hf
    have hnd' : ((ents D.fs).toList.map (·.born)).Nodup := by simpa [ents, Function.comp_def] using hRk.nodup
    have HRk := hide hRk
    have HFk := hide hFk
    have HIk := hide hIk
    have HGk := hide hGk
    have law := run_next_at (P := Try.prog) wr 0 I D.mb D.clock D.clock seen (ents D.fs) D.clock hit hm1 hold (Nat.le_refl _)
    clear hRk hFk hIk hGk h0c hrg h0d hlen hmk
    rcases law with ⟨h00, hrun⟩ | ⟨e, he, w1, hw1, hrun⟩
    · have hnx : ∀ ty, (Instr.next (.pointer (some ⟨I, 0, none⟩)) false ty).run Try.prog wr = _ := fun _ => hrun
      have HAl : Hid (∀ x ∈ D.fs, seen.contains x.born = true) := fun x hx => all_seen (ents D.fs) seen h00 x.ent (by simp only [ents, List.toList_toArray, List.mem_map]; exact ⟨x, hx, rfl⟩)
      clear hrun hit hm1 hold hnd' h00
      have hB := HRk.out.blk
      obtain ⟨ca, cc, hcv⟩ := ownsRow_form HRk.out.ochs
      have k0 := hB.cell 0
      have k1 := hB.cell 1
      have k2 := hB.cell 2
      have k3 := hB.cell 3
      have k4 := hB.cell 4
      have k5 := hB.cell 5
      have k6 := hB.cell 6
      simp at k0 k1 k2 k3 k4 k5 k6
      rw [hcv] at k1
      have HB := hide hB
      have HCV := hide hcv
      clear hB hcv
      go_upto_region 10 with fail
      have hW1 : wr.grownBy (wr.alloc (.cells #[.map (some NM), .slice ca D.chs.length cc, .int .i64 D.room, .int .i64 D.fuse, .int .i64 D.steps, .int .i64 D.starts, .bool D.down] 63)) none := World.grownBy_alloc _ _ _
      have hN : Blk (wr.alloc (.cells #[.map (some NM), .slice ca D.chs.length cc, .int .i64 D.room, .int .i64 D.fuse, .int .i64 D.steps, .int .i64 D.starts, .bool D.down] 63)) wr.heap.size #[.map (some NM), .slice ca D.chs.length cc, .int .i64 D.room, .int .i64 D.fuse, .int .i64 D.steps, .int .i64 D.starts, .bool D.down] 63 := alloc_new _ _
      generalize wr.alloc (.cells #[.map (some NM), .slice ca D.chs.length cc, .int .i64 D.room, .int .i64 D.fuse, .int .i64 D.steps, .int .i64 D.starts, .bool D.down] 63) = W1 at hW1 hN ⊢
      have hR1 := HRk.out.keep hW1
      have q1 : W1.cell? ⟨b, 1, none⟩ = some (.slice ca D.chs.length cc) := by rw [hR1.blk.cell 1, ← HCV.out]; rfl
      have HC : Hid (Calls Try.prog 45 #[.slice ca D.chs.length cc] W1 fun e w' => ∃ v', e = .returned v' ∧ w'.ownsRow base 75 67 v' D.chs.length (chcells D.chs) ∧ (∀ g, v'.ownBlock = some g → W1.heap.size ≤ g) ∧ W1.grownBy w' none) := by
        have := clone_changes W1 base D.cv D.chs hR1.c64 hR1.ochs HCh.out hR1.base_le
        rw [HCV.out] at this
        exact this
      have HN := hide hN
      have HW1 := hide hW1
      have H64 := hide hR1.c64
      have HFk' := hide HFk.out
      clear hR1 hN hW1 k0 k1 k2 k3 k4 k5 k6
      go_wp2_with (first
        | (go_at_call 45; refine Calls.mono HC.out ?_; rintro e w5 ⟨v5, rfl, ho5, hl5, hg5⟩; obtain ⟨a5, c5, rfl⟩ := ownsRow_form ho5; have n5 := Blk.trans' HN.out hg5; have r1 := n5.cell 1; have r2 := n5.frozen 1; simp at r1; have HN5 := hide n5; have HO5 := hide ho5; have HL5 := hide hl5; have HG5 := hide hg5; clear n5 ho5 hl5 hg5))
      go_ret
      have hlt : wr.heap.size < W1.heap.size := HN.out.lt
      have hgA := grown_trans' HW1.out HG5.out
      have hO6 : Only [wr.heap.size] w5 (w5.setCell ⟨wr.heap.size, 1, none⟩ (.slice a5 D.chs.length c5)) := Only.setCell w5 ⟨wr.heap.size, 1, none⟩ _
      have hgB : wr.grownBy (w5.setCell ⟨wr.heap.size, 1, none⟩ (.slice a5 D.chs.length c5)) none := ⟨hO6.os.trans hgA.os, hO6.tape.trans hgA.tape, hO6.output.trans hgA.output, Nat.le_trans hgA.size hO6.size, fun k hk _ => (hO6.block k (Nat.lt_of_lt_of_le hk hgA.size) (by simp; omega)).trans (hgA.block k hk (by simp))⟩
      have hwr : w.heap.size ≤ wr.heap.size := HGk.out.size
      obtain ⟨who', R'⟩ := HFk.out.rep hgB wr.heap.size { mb := NM, cv := .slice a5 D.chs.length c5, fs := fs, clock := clk, chs := D.chs, room := D.room, fuse := D.fuse, steps := D.steps, starts := D.starts, down := D.down } rfl rfl rfl (HN5.out.set 1 _) hwr (Nat.le_refl _)
        (ownsRow_only (ownsRow_raise HO5.out (fun g hg => by have := HL5.out g hg; omega)) hO6 (fun g hg => by have := HL5.out g hg; simp; omega)) H64.out (fun g hg => by have := HL5.out g hg; omega)
      exact ⟨wr.heap.size, _, who', rfl, R', ⟨rfl, rfl, rfl, rfl, rfl, rfl, fun f' hf' => by obtain ⟨f, hf, _, h2⟩ := HIk.out.from_ f' hf'; exact ⟨f, hf, h2⟩, fun f hf => HIk.out.all_ f hf (HAl.out f hf), HIk.out.uniq⟩, grown_trans' HGk.out hgB⟩
    · obtain ⟨f, hf, rfl⟩ := mem_ents (mem_left he).1
      have hseen : seen.contains f.born = false := (mem_left he).2
      have hO1 : Only [I] wr (setBlock w1 I (.mapIter (some D.mb) D.clock (seen.push f.born) D.clock)) := by
        rcases hw1 with rfl | rfl
        · exact Only.setBlock _ _ _
        · exact (Only.drew wr [I]).trans (Only.setBlock _ _ _)
      have hit1 : (setBlock w1 I (.mapIter (some D.mb) D.clock (seen.push f.born) D.clock)).heap[I]? = some (.mapIter (some D.mb) D.clock (seen.push f.born) D.clock) := by
        rcases hw1 with rfl | rfl <;> exact setBlock_same hit
      generalize setBlock w1 I (.mapIter (some D.mb) D.clock (seen.push f.born) D.clock) = W at hO1 hit1 hrun
      have hnx : ∀ ty, (Instr.next (.pointer (some ⟨I, 0, none⟩)) false ty).run Try.prog wr = _ := fun _ => hrun
      have hFW := HFk.out.iter hit hO1
      have hGW : w.grownBy W none := ⟨hO1.os.trans HGk.out.os, hO1.tape.trans HGk.out.tape, hO1.output.trans HGk.out.output, Nat.le_trans HGk.out.size hO1.size, fun k hk _ => (hO1.block k (Nat.lt_of_lt_of_le hk HGk.out.size) (by have h1 := HNM.out; have h2 := HIN.out; simp; omega)).trans (HGk.out.block k hk (by simp))⟩
      have hRW := HR.out.keep hGW
      have hen := run_entry_at (P := Try.prog) W I D.mb D.clock seen (ents D.fs) D.clock f.ent hit1 hRW.map (mem_left he).1 hnd'
      have HCl := hide (clone_entry W base f.eb f.sv f.kv f.seen f.kept (hRW.ent f hf) (hRW.osv f hf) (hRW.okv f hf) (HSl.out f hf) (HKl.out f hf) hRW.base_le)
      have hno := HIk.out.none_ HU.out hf hseen
      have HNew : Hid (∀ w3 eb, W.grownBy w3 none → (Instr.mapUpdate 60 (.map (some NM)) (.string f.name) (.pointer (some ⟨eb, 0, none⟩))).run Try.prog w3 = .ok () (setBlock w3 NM (.map (ents (fs ++ [FL.fresh f.name eb clk])) (clk + 1)))) := fun w3 eb h3 => new_run w3 NM fs clk f.name eb (hFW.keep h3).map hno
      have HFW := hide hFW
      have HGW := hide hGW
      have HRW := hide hRW
      have HHit := hide hit1
      have HHit0 := hide hit
      have HF := hide hf
      have HSeen := hide hseen
      have HNo := hide hno
      clear hrun hit hit1 hm1 he hO1 hf hseen hRW hFW hGW hw1 hold hno
      go_wp2_with (first
        | (go_at_call 44; refine Calls.mono HCl.out ?_; rintro e w3 ⟨sv3, kv3, rfl, hb3, hs3, hk3, ls3, lk3, hg3⟩; have hup := HNew.out w3 W.heap.size hg3; have HB3 := hide hb3; have HS3 := hide hs3; have HK3 := hide hk3; have HL3 := hide ls3; have HM3 := hide lk3; have HG3 := hide hg3; clear hb3 hs3 hk3 ls3 lk3 hg3))
      have hee : ents (fs ++ [FL.fresh f.name W.heap.size clk]) = ents (fs ++ [⟨f.name, W.heap.size, clk, sv3, kv3, f.seen, f.kept⟩]) := by simp [ents, FL.fresh]
      rw [hee]
      have hwW : w.heap.size ≤ W.heap.size := HGW.out.size
      obtain ⟨who', F'⟩ := HFW.out.add hwW HG3.out f.name sv3 kv3 f.seen f.kept HB3.out (ownsRow_raise HS3.out (fun g hg => by have := HL3.out g hg; omega)) (ownsRow_raise HK3.out (fun g hg => by have := (HM3.out g hg).1; omega)) HL3.out HM3.out
      have hne : I ≠ NM := by have := HIN.out; omega
      have hO6 : Only [NM] w3 (setBlock w3 NM (.map (ents (fs ++ [⟨f.name, W.heap.size, clk, sv3, kv3, f.seen, f.kept⟩])) (clk + 1))) := Only.setBlock _ _ _
      have hg03 := grown_trans' HGW.out HG3.out
      have hit6 : (setBlock w3 NM (.map (ents (fs ++ [⟨f.name, W.heap.size, clk, sv3, kv3, f.seen, f.kept⟩])) (clk + 1))).heap[I]? = some (.mapIter (some D.mb) D.clock (seen.push f.born) D.clock) :=
        hO6.blk ((HG3.out.block I (Array.getElem?_eq_some_iff.1 HHit.out).1 (by simp)).trans HHit.out) (by simpa using hne)
      have hg6 : w.grownBy (setBlock w3 NM (.map (ents (fs ++ [⟨f.name, W.heap.size, clk, sv3, kv3, f.seen, f.kept⟩])) (clk + 1))) none := ⟨hO6.os.trans hg03.os, hO6.tape.trans hg03.tape, hO6.output.trans hg03.output, Nat.le_trans hg03.size hO6.size, fun k hk _ => (hO6.block k (Nat.lt_of_lt_of_le hk hg03.size) (by have h1 := HNM.out; simp; omega)).trans (hg03.block k hk (by simp))⟩
      refine ⟨⟨seen.push f.born, _, clk + 1, who', hit6, F', HIk.out.step HU.out HR.out.nodup HF.out HSeen.out _ _ _ _, hg6⟩, ?_⟩
      simp only [World.iterSeen, hit6, HHit0.out]
      exact left_shrinks (ents D.fs) seen f.ent (left_mem (by simp only [ents, List.toList_toArray, List.mem_map]; exact ⟨f, HF.out, rfl⟩) HSeen.out)
end Go.Proofs.Ytefcconbpomedaa
