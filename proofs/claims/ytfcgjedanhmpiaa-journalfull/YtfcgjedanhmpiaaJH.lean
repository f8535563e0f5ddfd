/- Steps appended to steps. -/
import Derived.Test.YtfcgjedanhmpiaaJG
import Derived.Deep.AppendLies
namespace Go.Proofs.Ytfcgjedanhmpiaa
open Go.ChangeShapes Go.WideShapes Go.ChangeAt Go.RowKit
open Go.ChangeMaps (setBlock)
set_option linter.unusedVariables false

def catS (S : Nat → Stp) (n : Nat) (S' : Nat → Stp) : Nat → Stp := fun k => if k < n then S k else S' (k - n)
theorem infoF : ∃ i z, Try.prog.info? 82 = some i ∧ i.zero = some z ∧ i.size = 1 ∧ i.bytes = 8 ∧ z.cells.size = 1 := by
  have h : (Try.prog.info? 82).map (fun i => (i.zero.map (fun z => z.cells.size), i.size, i.bytes)) = some (some 1, 1, 8) := by kernel_rfl
  obtain ⟨i, h1, h2⟩ := Option.map_eq_some_iff.1 h
  simp only [Prod.mk.injEq] at h2
  obtain ⟨z, h3, h4⟩ := Option.map_eq_some_iff.1 h2.1
  exact ⟨i, z, h1, h3, h2.2.1, h2.2.2, h4⟩
/-- What an append leaves alone. -/
structure App (base : Nat) (W w' : World) : Prop where
  grown : ∀ w0 : World, w0.heap.size ≤ base → w0.grownBy W none → w0.grownBy w' none
  blk : ∀ k c t, t ≠ 82 → Blk W k c t → Blk w' k c t
theorem mkPut {V : World} {b at_ a1 a2 a3 a4 : Nat} {nm d : ByteArray} (h : Blk V a1 #[.pointer (some ⟨b, 0, none⟩)] 53 ∧ Blk V a2 #[.string nm] 9 ∧ Blk V a3 #[.int .i64 (at_ : Int)] 3 ∧ Blk V a4 #[.string d] 9) : SV V b (.put nm at_ d) (fun4 53 a1 a2 a3 a4) := ⟨a1, a2, a3, a4, rfl, h⟩
theorem mkCut {V : World} {b n a1 a2 a3 : Nat} {nm : ByteArray} (h : Blk V a1 #[.pointer (some ⟨b, 0, none⟩)] 53 ∧ Blk V a2 #[.string nm] 9 ∧ Blk V a3 #[.int .i64 (n : Int)] 3) : SV V b (.cut nm n) (fun3 58 a1 a2 a3) := ⟨a1, a2, a3, rfl, h⟩
theorem mkSync {V : World} {b a1 a2 : Nat} {nm : ByteArray} (h : Blk V a1 #[.pointer (some ⟨b, 0, none⟩)] 53 ∧ Blk V a2 #[.string nm] 9) : SV V b (.sync nm) (fun2 55 a1 a2) := ⟨a1, a2, rfl, h⟩
theorem App.box {base : Nat} {W w' : World} (h : App base W w') {k b : Nat} (hb : Blk W k #[.pointer (some ⟨b, 0, none⟩)] 53) : Blk w' k #[.pointer (some ⟨b, 0, none⟩)] 53 := h.blk _ _ _ (by decide) hb
theorem App.pg {base : Nat} {W w' : World} (h : App base W w') {k : Nat} {c : Array Value} (hb : Blk W k c 67) : Blk w' k c 67 := h.blk _ _ _ (by decide) hb
theorem box_cell {w : World} {k b : Nat} (hb : Blk w k #[.pointer (some ⟨b, 0, none⟩)] 53) : w.cell? ⟨k, 0, none⟩ = some (.pointer (some ⟨b, 0, none⟩)) := (hb.cell 0).trans rfl
theorem box_drew {w : World} {k b : Nat} (hb : Blk w k #[.pointer (some ⟨b, 0, none⟩)] 53) : Blk w.drew k #[.pointer (some ⟨b, 0, none⟩)] 53 := hb
theorem step_appF {ops : Array Oper} {o : Oper} {a : Act} {K : Act → World → Prop} {Q : Exit → Act → World → Prop} {E : Prop} {W : World} {base b n m : Nat} {v : Value} {S S' : Nat → Stp} (vs : List Value) (hst : StO W base b v n S) (hvs : vs.length = m) (hm : 0 < m)
    (hsv : ∀ k u, vs[k]? = some u → SV W b (S' k) u) (hone : ∀ u ∈ vs, u.oneCell' = true) (hn : n + m ≤ 1000) (hbase : base ≤ W.heap.size) (s x : Operand) (hgd : o.guard = none) (ho : o.op = .call { callee := .builtin .append, args := #[s, x], argTypes := #[58, 58] })
    (hs : a.eval s = v) (hx : a.eval x = .slice (some ⟨W.heap.size, 0, none⟩) m m)
    (hk : ∀ p cap w', StO w' base b (.slice p (n + m) cap) (n + m) (catS S n S') → App base W w' → K (a.put o.dst (.slice p (n + m) cap)) w') :
    if Region.wanted o (yielded ops a.tmps) = true then Oper.wp Try.prog o a (W.alloc (.cells vs.toArray 82)) K Q else E := by
  obtain ⟨i, z, hi, hz0, hz1, hz2, hz3⟩ := infoF
  obtain ⟨us, hu, hul, hus⟩ := hst
  have hg0 := World.grownBy_alloc W (.cells vs.toArray 82) none
  have hu2 := hu.alloc (.cells vs.toArray 82)
  have hnews : ∀ j u, vs[j]? = some u → (W.alloc (.cells vs.toArray 82)).cell? ((⟨W.heap.size, 0, none⟩ : Addr).add j) = some u := fun j u hj => by
    rw [show (⟨W.heap.size, 0, none⟩ : Addr).add j = ⟨W.heap.size, j, none⟩ by unfold Addr.add; split <;> simp_all]
    have hb : Blk (W.alloc (.cells vs.toArray 82)) W.heap.size vs.toArray 82 := alloc_new _ _
    rw [hb.cell]; simpa using hj
  refine step_append_lies (w := W.alloc (.cells vs.toArray 82)) hgd s x 58 ho base 82 i z 1 8 Try.underlying58 hi hz0 hz1 hz2 hz3 (by omega) v n us hs hu2 ⟨W.heap.size, 0, none⟩ m m vs hx (by omega) hnews hone hm (by simp only [maxLen]; omega) (by omega) (by simp; omega) _ rfl ?_
  intro g cap w' hown hgr hgg hlt
  have hblk : ∀ k c t, t ≠ 82 → Blk W k c t → Blk w' k c t := fun k c t ht hb => by
    refine (hgr.block k (by have := hb.lt; simp; omega) (fun e => ?_)).trans ((Below.heap_alloc _ _ _ hb.lt).trans hb)
    exact ht (own_type hu e.symm hb)
  refine hk _ _ _ ⟨us ++ vs, hown, by simp; omega, fun k u hk => ?_⟩ ⟨fun w0 h0 hW => ?_, hblk⟩
  · have hmap : ∀ s, SV W b s u → SV w' b s u := fun s h => h.map (fun k c t ht hb => hblk k c t (by rcases ht with rfl | rfl | rfl <;> decide) hb)
    unfold catS
    by_cases hlt : k < n
    · rw [if_pos hlt]
      rw [List.getElem?_append_left (by omega)] at hk
      exact hmap _ (hus k u hk)
    · rw [if_neg hlt]
      rw [List.getElem?_append_right (by omega), hul] at hk
      exact hmap _ (hsv _ u hk)
  · refine ⟨hgr.os.trans hW.os, hgr.tape.trans hW.tape, hgr.output.trans hW.output, Nat.le_trans hW.size (Nat.le_trans (by simp) hgr.size), fun k hk hn => ?_⟩
    have hkW : k < W.heap.size := Nat.lt_of_lt_of_le hk hW.size
    refine (hgr.block k (by simp; omega) (fun e => ?_)).trans ((Below.heap_alloc _ _ _ hkW).trans (hW.block k hk hn))
    have := (hu.lt k e.symm).1
    omega

set_option maxHeartbeats 1000000 in
theorem touched_none (w : World) (old count : Int) (ho : 0 ≤ old ∧ old ≤ count ∧ count ≤ 10000) (p : Option Addr) (n cap : Nat) (N : Nat → Int) (L : Nat → List UInt8) (hp : PgA w p n N L) (hn : n ≤ 10000) (hN : ∀ j, j < n → old < N j) :
    Calls Try.prog 37 #[.int .i64 old, .int .i64 count, .slice p n cap] w fun e w' => e = .returned (.slice none 0 0) ∧ w.grownBy w' none := by
  have HP := hideJ hp
  have HN := hideJ hN
  have HL := hideJ hn
  have hw0 : IntKind.i64.wrap (count + 1) = count + 1 := by rw [IntKind.wrap_i64]; omega
  have l9 : ¬ count + 1 ≤ old := by omega
  clear hp hN hn
  go_enter Try.func37, Try.ntmps37
  go_wp2
  go_loopw [7, 13] (fun sv iv wr => ∃ j : Nat, j ≤ n ∧ iv = .int .i64 (j : Int) ∧ sv = .slice none 0 0 ∧ w.grownBy wr none) (fun _ iv _ => n - (intOf iv).toNat)
  case atStart => exact ⟨0, Nat.zero_le _, rfl, rfl, grown_refl _⟩
  case round =>
    obtain ⟨j, hj, rfl, rfl, hg⟩ := hrel
    have HG := hideJ hg
    clear hg
    by_cases hlt : j < n
    · obtain ⟨g, cur, rfl, hb, hc⟩ := (HP.out.grown HG.out) (by omega)
      have HRg := hideJ (hc j hlt)
      obtain ⟨z, hz, hZ⟩ := new67 wr
      have HZ := hideJ hZ
      have HI := hideJ (size67 (n := N j) (hc j hlt).1)
      have HSz : Hid ((pcl (N j) (L j)).toArray.size = z.size) := by show _ = _; rw [List.size_toArray, pcl_length _ (hc j hlt).1, hz]
      have HA := hideJ (pcl_all (N j) (L j))
      have l1 : (j : Int) < (n : Int) := by omega
      have l0 : (0 : Int) ≤ (j : Int) := by omega
      have hw1 : IntKind.i64.wrap ((j : Int) + 1) = (j : Int) + 1 := by have := HL.out; rw [IntKind.wrap_i64]; omega
      have l2 : ¬ N j ≤ old := by have := HN.out j hlt; omega
      have HK := hideJ hlt
      clear hb hc hZ hz
      go_wp2_with (first
          | ((with_reducible refine at67L ?_); refine wp_load67 HRg.out.1 HRg.out.2 _ (by rfl) (by rfl) (by rfl) ?_)
          | ((with_reducible refine at67S ?_); refine wp_storeB (c := (pcl (N j) (L j)).toArray) HI.out HSz.out HA.out HZ.out _ _ (by rfl) (by rfl) (by rfl) (by rfl) ?_; intro W5 hb5 ho5; have HG5 := hideJ (grown_only (grown_trans' HG.out (World.grownBy_alloc _ _ _)) ho5 HG.out.size); have cN := (Blk.cell hb5 0).trans (show _ = some (Value.int .i64 (N j)) from rfl); clear hb5 ho5))
      refine ⟨⟨j + 1, HK.out, rfl, rfl, HG5.out⟩, ?_⟩
      simp only [intOf]; have := HK.out; omega
    · obtain rfl : j = n := by omega
      go_wp2
      go_loopw [7, 10] (fun sv iv wq => sv = .slice none 0 0 ∧ iv = .int .i64 (count + 1) ∧ wq = wr) (fun _ _ _ => 0)
      case atStart => exact ⟨rfl, rfl, rfl⟩
      case round =>
        obtain ⟨rfl, rfl, rfl⟩ := hrel
        go_wp2
        go_ret
        exact ⟨rfl, HG.out⟩
end Go.Proofs.Ytfcgjedanhmpiaa
