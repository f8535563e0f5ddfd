/- DiskKeeps: changes made to a file, one after another. -/
import Derived.Test.YtefcconbpomedaaW12
import Derived.Test.YtefcconbpomedaaV14
namespace Go.Proofs.Ytefcconbpomedaa
open Go.ChangeShapes Go.WideShapes Go.ChangeAt Go.RowKit
set_option linter.unusedVariables false

theorem wchs_okN {nm : ByteArray} {l d : List UInt8} {at_ : Nat} (hat : at_ ≤ 4095) (hd : d.length ≤ 2000) (c : Ch) (hc : c ∈ wchs nm l at_ d) : c.name = nm ∧ ChW c := by
  unfold wchs at hc
  rcases List.mem_append.1 hc with h | h
  · unfold wsize at h
    split at h
    · have e : c = Ch.mk nm (-1) ((at_ + d.length : Nat) : Int) (List.replicate 64 0) := by simpa using h
      rw [e]
      exact ⟨rfl, .inl rfl, by show (0 : Int) ≤ ((at_ + d.length : Nat) : Int); omega, by show ((at_ + d.length : Nat) : Int) ≤ 1048576; omega⟩
    · cases h
  · unfold secs at h
    obtain ⟨k, hk, rfl⟩ := List.mem_map.1 h
    rw [List.mem_range'_1] at hk
    exact ⟨rfl, .inr ⟨by show (0 : Int) ≤ (k : Int); omega, by show (k : Int) ≤ 16384; omega⟩, by show (0 : Int) ≤ 0; omega, by show (0 : Int) ≤ 1048576; omega⟩
theorem wchs_lenN {nm : ByteArray} {l d : List UInt8} {at_ : Nat} (hd : d.length ≤ 2000) : (wchs nm l at_ d).length ≤ 40 := by
  unfold wchs
  rw [List.length_append, length_secs]
  have : (wsize nm l (at_ + d.length)).length ≤ 1 := by unfold wsize; split <;> simp
  omega
/-- Only the file nm has moved. -/
def Others (D : DS) (nm : ByteArray) (D' : DS) : Prop := (∀ nm', nm' ≠ nm → seenOf D' nm' = seenOf D nm') ∧ (∀ nm', keptOf D' nm' = keptOf D nm') ∧ (∀ c ∈ D'.chs, c ∈ D.chs ∨ c.name = nm)
theorem Others.refl (D : DS) (nm : ByteArray) : Others D nm D := ⟨fun _ _ => rfl, fun _ => rfl, fun _ h => .inl h⟩
theorem Others.trans {D D1 D2 : DS} {nm : ByteArray} (h : Others D nm D1) (h' : Others D1 nm D2) : Others D nm D2 :=
  ⟨fun n hn => (h'.1 n hn).trans (h.1 n hn), fun n => (h'.2.1 n).trans (h.2.1 n), fun c hc => by
    rcases h'.2.2 c hc with h1 | h1
    · exact h.2.2 c h1
    · exact .inr h1⟩
theorem KI.stepped {D : DS} {i : Nat} (h : KI D i) : KI (stepped D) (i + 1) :=
  { h with
    few := by have := h.few; show D.chs.length ≤ _; omega
    fuse := by show (if D.fuse = 0 then 0 else D.fuse - 1) = 0; rw [h.fuse]; rfl
    steps := by have := h.steps; show 0 ≤ D.steps + 1 ∧ D.steps + 1 ≤ ((i + 1 : Nat) : Int); omega
    down := by show (D.down || D.fuse == 1) = false; rw [h.down, h.fuse]; rfl
    full := h.full }
theorem Others.changed {D D1 D2 : DS} {nm : ByteArray} {l' : List UInt8} {cs : List Ch} (hc : D1.chs = D.chs) (h2 : D2.chs = D1.chs ++ cs) (hS : ∀ nm', seenOf D2 nm' = if nm' = nm then l' else seenOf D nm') (hK : ∀ nm', keptOf D2 nm' = keptOf D nm') (hcs : ∀ c ∈ cs, c.name = nm) : Others D nm D2 :=
  ⟨fun n hn => by rw [hS, if_neg hn], hK, fun c h => by
    rw [h2, hc] at h
    rcases List.mem_append.1 h with h | h
    · exact .inl h
    · exact .inr (hcs c h)⟩
theorem write_k (w : World) (base b : Nat) (D : DS) (who : Nat → Nat) (R : Rep w base b D who) {i : Nat} (h : KI D i) (hi : i ≤ 50) (nm : ByteArray) (hnm : nm = nmA ∨ nm = nmB) (s : ByteArray) (at_ : Nat) (hat : at_ ≤ 4095) (hs0 : 0 < s.size) (hs : s.size ≤ 2000) :
    Calls Try.prog 11 #[.pointer (some ⟨b, 0, none⟩), .string nm, .int .i64 at_, .string s] w fun e w' => e = .returned (.int .i64 0) ∧ Below base w w' ∧ ∃ D' who', Rep w' base b D' who' ∧ KI D' (i + 1) ∧ Others D nm D' := by
  have hsl : s.data.toList.length = s.size := by rw [Array.length_toList]; rfl
  have ht := h.few2
  have hr := h.room
  refine (write_ok w base b D who R (h.fine (by omega)) h.down nm s at_ hs0 (by omega) (.inr (by rw [hr]; have := h.flen nm; omega))).mono ?_
  rintro e w' ⟨rfl, hb, f1, D1, v', cv', who', hE, R'⟩
  obtain ⟨e1, e2, e3⟩ := entered_seen hE
  have hl : (wseen f1.seen at_ s.data.toList).length ≤ 6100 := by
    rw [length_wseen]
    have h1 : f1.seen.length ≤ 6100 := by
      rw [e1]
      have := h.flen nm
      unfold Go.Proofs.Ytefcconbpomedaa.flen at this
      unfold seenOf
      cases hl : look D.fs nm with
      | none => simp
      | some f => rw [hl] at this; simpa using this
    omega
  obtain ⟨k1, k2, k3⟩ := h.change hnm hE v' cv' (wseen f1.seen at_ s.data.toList) (wchs nm f1.seen at_ s.data.toList) hl (wchs_okN hat (by omega)) (wchs_lenN (by omega)) (keep_wchs nm f1.seen s.data.toList at_ (by omega))
  refine ⟨ret_int (by unfold ans; rw [h.fuse]; rfl), hb, _, who', R', k1, Others.changed (Entered.facts hE).2.2.2.2.2 rfl k2 k3 (fun c hc => (wchs_okN hat (by omega) c hc).1)⟩
theorem cut_k (w : World) (base b : Nat) (D : DS) (who : Nat → Nat) (R : Rep w base b D who) {i : Nat} (h : KI D i) (hi : i ≤ 50) (nm : ByteArray) (hnm : nm = nmA ∨ nm = nmB) (n : Nat) (hn : n ≤ 4095) :
    Calls Try.prog 12 #[.pointer (some ⟨b, 0, none⟩), .string nm, .int .i64 n] w fun e w' => e = .returned (.int .i64 0) ∧ Below base w w' ∧ ∃ D' who', Rep w' base b D' who' ∧ KI D' (i + 1) ∧ Others D nm D' := by
  have ht := h.few2
  have hr := h.room
  refine (truncate_ok w base b D who R (h.fine (by omega)) h.down nm n (by omega) (.inr (by rw [hr]; omega))).mono ?_
  rintro e w' ⟨rfl, hb, D', who', hC, R'⟩
  have ha : Ending.returned (.int .i64 (ans D)) = Ending.returned (.int .i64 0) := ret_int (by unfold ans; rw [h.fuse]; rfl)
  rcases hC with ⟨hx, rfl⟩ | ⟨hx, f1, D1, v', cv', hE, rfl⟩
  · exact ⟨ha, hb, _, who', R', h.stepped, Others.refl _ _⟩
  · obtain ⟨k1, k2, k3⟩ := h.change hnm hE v' cv' (rsz f1.seen n) [⟨nm, -1, n, List.replicate 64 0⟩] (by rw [length_rsz]; omega) (fun c hc => by
        obtain rfl := List.mem_singleton.1 hc
        exact ⟨rfl, .inl rfl, by show (0 : Int) ≤ (n : Int); omega, by show (n : Int) ≤ 1048576; omega⟩) (by simp) (by
        show (if isN nm ⟨nm, -1, (n : Int), List.replicate 64 0⟩ then takeL f1.seen ⟨nm, -1, (n : Int), List.replicate 64 0⟩ 1 else f1.seen) = _
        rw [isN_self, if_pos rfl]
        unfold takeL
        rw [if_neg (by decide), if_pos rfl]
        show rsz f1.seen (n : Int).toNat = _
        rw [Int.toNat_natCast])
    exact ⟨ha, hb, _, who', R', k1, Others.changed (Entered.facts hE).2.2.2.2.2 rfl k2 k3 (fun c hc => by obtain rfl := List.mem_singleton.1 hc; rfl)⟩

set_option maxHeartbeats 4000000 in
set_option maxRecDepth 100000 in
theorem wrote_any (w : World) (base b : Nat) (D : DS) (who : Nat → Nat) (R : Rep w base b D who) {i : Nat} (h : KI D i) (hi : i ≤ 21) (nm : ByteArray) (hnm : nm = nmA ∨ nm = nmB) (p : Option Addr) (n cap : Nat) (A : Nat → Int) (S : Nat → ByteArray)
    (hF : ∀ V, Below base w V → FP V p n A S) (hn : n ≤ 20) (hno : ∀ j, j < n → (S j).size ≤ 2000) :
    Calls Try.prog 28 #[.pointer (some ⟨b, 0, none⟩), .string nm, .slice p n cap] w fun e w' => e = .returned (.tuple #[]) ∧ Below base w w' ∧ ∃ D' who', Rep w' base b D' who' ∧ KI D' (i + n) ∧ Others D nm D' := by
  have HF := hide hF
  have HR := hide R
  have HKI := hide h
  have HNo := hide hno
  have HNm := hide hnm
  clear hF R h hno hnm
  go_enter Try.func28, Try.ntmps28
  go_wp2
  go_loopw [6] (fun jv wr => ∃ (j : Nat) (Dj : DS) (whoj : Nat → Nat), j ≤ n ∧ jv = .int .i64 (j : Int) ∧ Rep wr base b Dj whoj ∧ KI Dj (i + j) ∧ Others D nm Dj ∧ Below base w wr) (fun jv _ => n - (intOf jv).toNat)
  case atStart => exact ⟨0, D, who, Nat.zero_le _, rfl, HR.out, HKI.out, Others.refl _ _, Below.refl _ _⟩
  case round =>
    obtain ⟨j, Dj, whoj, hj, rfl, hRj, hKj, hOj, hBj⟩ := hrel
    have HRj := hide hRj
    have HKj := hide hKj
    have HOj := hide hOj
    have HBj := hide hBj
    clear hRj hKj hOj hBj
    by_cases hlt : j < n
    · obtain ⟨g, o, rfl, hc⟩ := HF.out wr HBj.out (by omega)
      obtain ⟨c0, c1⟩ := hc j hlt
      have l1 : (j : Int) < (n : Int) := by omega
      have l0 : (0 : Int) ≤ (j : Int) := by omega
      have hw1 : IntKind.i64.wrap ((j : Int) + 1) = (j : Int) + 1 := by rw [IntKind.wrap_i64]; omega
      have hand := i64_and4095 (A j)
      obtain ⟨at_, hat⟩ : ∃ at_ : Nat, A j % 4096 = (at_ : Int) := ⟨(A j % 4096).toNat, by omega⟩
      have hat2 : at_ ≤ 4095 := by omega
      rw [hat] at hand
      have hs2 := HNo.out j hlt
      clear hc hat
      by_cases hs : (S j).size = 0
      · have hse : S j = ⟨#[]⟩ := by
          have : (S j).data.size = 0 := hs
          cases hS : S j with
          | mk d => rw [hS] at this; simp at this; rw [this]
        rw [hse] at c1
        have HC := hide (cut_k wr base b Dj whoj HRj.out HKj.out (by omega) nm HNm.out at_ hat2)
        clear hse hs
        go_wp2_with (first
          | (go_at_call 12; refine Calls.mono HC.out ?_; rintro e w3 ⟨rfl, hb3, D3, who3, hR3, hK3, hO3⟩))
        refine ⟨⟨j + 1, D3, who3, hlt, rfl, hR3, hK3, HOj.out.trans hO3, HBj.out.trans hb3⟩, ?_⟩
        simp only [intOf]; omega
      · have hne : ¬ (S j).size = 0 := hs
        have HC := hide (write_k wr.drew base b Dj whoj HRj.out.drew HKj.out (by omega) nm HNm.out (S j) at_ hat2 (by omega) hs2)
        have HSt : Hid (∀ V, Below base wr.drew V → V.cell? ⟨g, o + j * 2, none⟩ = some (.int .i64 (A j)) ∧ V.cell? ⟨g, o + j * 2 + 1, none⟩ = some (.string (S j))) := fun V hV => by
          obtain ⟨g', o', e, hc⟩ := HF.out V (HBj.out.trans ((Below.refl _ wr).drew.trans hV)) (by omega)
          cases e
          exact hc j hlt
        have hb0 : ((S j).toList == []) = false := by
          cases hS : (S j).toList with
          | nil => exfalso; apply hne; have := congrArg List.length hS; rw [ByteArray.toList_eq] at this; simpa using this
          | cons x r => rfl
        go_upto_region 5 with fail
        refine wp_region_held_drew (S := fun V => V.cell? ⟨g, o + j * 2, none⟩ = some (.int .i64 (A j)) ∧ V.cell? ⟨g, o + j * 2 + 1, none⟩ = some (.string (S j))) (by kernel_rfl) (HSt.out _ (Below.refl _ _)) ?_
        intro hHeld
        refine wpAnyH_take (i := 0) (v := .pointer (some ⟨b, 0, none⟩)) rfl (by kernel_rfl) (by kernel_rfl) (by kernel_rfl) (fun _ _ _ h => h) (Or.inl ⟨by rfl, fun V hV => by (obtain ⟨f1, f2⟩ := hV; go_simp)⟩) hHeld ?_
        try simp only [Act.put, List.getElem_toArray, List.getElem_cons_zero, List.setIfInBounds_toArray, List.set_cons_zero, List.set_cons_succ]
        refine wpAnyH_take (i := 1) (v := .string nm) rfl (by kernel_rfl) (by kernel_rfl) (by kernel_rfl) (fun _ _ _ h => h) (Or.inl ⟨by rfl, fun V hV => by (obtain ⟨f1, f2⟩ := hV; go_simp)⟩) hHeld ?_
        try simp only [Act.put, List.getElem_toArray, List.getElem_cons_succ, List.getElem_cons_zero, List.setIfInBounds_toArray, List.set_cons_zero, List.set_cons_succ]
        refine wpAnyH_take (i := 2) (v := .slice (some ⟨g, o, none⟩) n cap) rfl (by kernel_rfl) (by kernel_rfl) (by kernel_rfl) (fun _ _ _ h => h) (Or.inl ⟨by rfl, fun V hV => by (obtain ⟨f1, f2⟩ := hV; go_simp)⟩) hHeld ?_
        try simp only [Act.put, List.getElem_toArray, List.getElem_cons_succ, List.getElem_cons_zero, List.setIfInBounds_toArray, List.set_cons_zero, List.set_cons_succ]
        refine wpAnyH_take (i := 3) (v := .int .i64 (j : Int)) rfl (by kernel_rfl) (by kernel_rfl) (by kernel_rfl) (fun _ _ _ h => h) (Or.inl ⟨by rfl, fun V hV => by (obtain ⟨f1, f2⟩ := hV; go_simp)⟩) hHeld ?_
        try simp only [Act.put, List.getElem_toArray, List.getElem_cons_succ, List.getElem_cons_zero, List.setIfInBounds_toArray, List.set_cons_zero, List.set_cons_succ]
        refine wpAnyH_take (i := 4) (v := .pointer (some ⟨g, o + j * 2, none⟩)) rfl (by kernel_rfl) (by kernel_rfl) (by kernel_rfl) (fun _ _ _ h => h) (Or.inl ⟨by rfl, fun V hV => by (obtain ⟨f1, f2⟩ := hV; go_simp)⟩) hHeld ?_
        try simp only [Act.put, List.getElem_toArray, List.getElem_cons_succ, List.getElem_cons_zero, List.setIfInBounds_toArray, List.set_cons_zero, List.set_cons_succ]
        refine wpAnyH_take (i := 5) (v := .pointer (some ⟨g, o + j * 2, none⟩)) rfl (by kernel_rfl) (by kernel_rfl) (by kernel_rfl) (fun _ _ _ h => h) (Or.inl ⟨by rfl, fun V hV => by (obtain ⟨f1, f2⟩ := hV; go_simp)⟩) hHeld ?_
        try simp only [Act.put, List.getElem_toArray, List.getElem_cons_succ, List.getElem_cons_zero, List.setIfInBounds_toArray, List.set_cons_zero, List.set_cons_succ]
        refine wpAnyH_take (i := 6) (v := .int .i64 (A j)) rfl (by kernel_rfl) (by kernel_rfl) (by kernel_rfl) (fun _ _ _ h => h) (Or.inl ⟨by rfl, fun V hV => by (obtain ⟨f1, f2⟩ := hV; go_simp)⟩) hHeld ?_
        try simp only [Act.put, List.getElem_toArray, List.getElem_cons_succ, List.getElem_cons_zero, List.setIfInBounds_toArray, List.set_cons_zero, List.set_cons_succ]
        refine wpAnyH_take (i := 7) (v := .int .i64 (at_ : Int)) rfl (by kernel_rfl) (by kernel_rfl) (by kernel_rfl) (fun _ _ _ h => h) (Or.inl ⟨by rfl, fun V hV => by (obtain ⟨f1, f2⟩ := hV; go_simp)⟩) hHeld ?_
        try simp only [Act.put, List.getElem_toArray, List.getElem_cons_succ, List.getElem_cons_zero, List.setIfInBounds_toArray, List.set_cons_zero, List.set_cons_succ]
        refine wpAnyH_take (i := 8) (v := .slice (some ⟨g, o, none⟩) n cap) rfl (by kernel_rfl) (by kernel_rfl) (by kernel_rfl) (fun _ _ _ h => h) (Or.inl ⟨by rfl, fun V hV => by (obtain ⟨f1, f2⟩ := hV; go_simp)⟩) hHeld ?_
        try simp only [Act.put, List.getElem_toArray, List.getElem_cons_succ, List.getElem_cons_zero, List.setIfInBounds_toArray, List.set_cons_zero, List.set_cons_succ]
        refine wpAnyH_take (i := 9) (v := .int .i64 (j : Int)) rfl (by kernel_rfl) (by kernel_rfl) (by kernel_rfl) (fun _ _ _ h => h) (Or.inl ⟨by rfl, fun V hV => by (obtain ⟨f1, f2⟩ := hV; go_simp)⟩) hHeld ?_
        try simp only [Act.put, List.getElem_toArray, List.getElem_cons_succ, List.getElem_cons_zero, List.setIfInBounds_toArray, List.set_cons_zero, List.set_cons_succ]
        refine wpAnyH_take (i := 10) (v := .pointer (some ⟨g, o + j * 2, none⟩)) rfl (by kernel_rfl) (by kernel_rfl) (by kernel_rfl) (fun _ _ _ h => h) (Or.inl ⟨by rfl, fun V hV => by (obtain ⟨f1, f2⟩ := hV; go_simp)⟩) hHeld ?_
        try simp only [Act.put, List.getElem_toArray, List.getElem_cons_succ, List.getElem_cons_zero, List.setIfInBounds_toArray, List.set_cons_zero, List.set_cons_succ]
        refine wpAnyH_take (i := 11) (v := .pointer (some ⟨g, o + j * 2 + 1, none⟩)) rfl (by kernel_rfl) (by kernel_rfl) (by kernel_rfl) (fun _ _ _ h => h) (Or.inl ⟨by rfl, fun V hV => by (obtain ⟨f1, f2⟩ := hV; go_simp)⟩) hHeld ?_
        try simp only [Act.put, List.getElem_toArray, List.getElem_cons_succ, List.getElem_cons_zero, List.setIfInBounds_toArray, List.set_cons_zero, List.set_cons_succ]
        refine wpAnyH_take (i := 12) (v := .string (S j)) rfl (by kernel_rfl) (by kernel_rfl) (by kernel_rfl) (fun _ _ _ h => h) (Or.inl ⟨by rfl, fun V hV => by (obtain ⟨f1, f2⟩ := hV; go_simp)⟩) hHeld ?_
        try simp only [Act.put, List.getElem_toArray, List.getElem_cons_succ, List.getElem_cons_zero, List.setIfInBounds_toArray, List.set_cons_zero, List.set_cons_succ]
        refine wpAnyH_ready (rs := [13]) (by kernel_rfl) (by simp) ?_
        refine AllReadyH.cons rfl (fun K hK => ?_) AllReadyH.nil
        go_simp
        go_at_call 11; refine Calls.mono HC.out ?_; rintro e w3 ⟨rfl, hb3, D3, who3, hR3, hK3, hO3⟩; have Hb3 := hide hb3; have HR3 := hide hR3; have HK3 := hide hK3; have HO3 := hide hO3; clear hb3 hR3 hK3 hO3
        go_wp2_with fail
        refine hK.out _ _ (HSt.out w3 Hb3.out) (fun hHeld => ?_)
        clear hK K
        refine wpAnyH_done (by kernel_rfl) ?_ _
        go_wp2_with fail
        refine ⟨⟨j + 1, D3, who3, hlt, rfl, HR3.out, HK3.out, HOj.out.trans HO3.out, HBj.out.trans ((Below.refl _ wr).drew.trans Hb3.out)⟩, ?_⟩
        simp only [intOf]; omega
    · obtain rfl : j = n := by omega
      go_wp2
      go_end0
      exact ⟨rfl, HBj.out, Dj, whoj, HRj.out, HKj.out, HOj.out⟩
end Go.Proofs.Ytefcconbpomedaa
