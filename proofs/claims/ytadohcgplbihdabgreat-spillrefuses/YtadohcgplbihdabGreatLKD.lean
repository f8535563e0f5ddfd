/- A table: made, copied, asked, and changed. -/
import Derived.Test.YtadohcgplbihdabGreatLKC
namespace Go.Proofs.YtadohcgplbihdabGreat
open Go.ChangeShapes Go.WideShapes Go.ChangeAt Go.RowKit
set_option linter.unusedVariables false

/-- Nobody holds a lock. -/
def h0 : List Int := List.replicate 8 0
theorem h0_length : h0.length = 8 := rfl
theorem gt_h0 (k : Nat) : gt h0 k = 0 := by
  unfold gt h0
  rw [List.getElem?_replicate]
  split <;> rfl
theorem info46 : (Tryz.prog.info? 196).map (·.size) = some 9 := by kernel_rfl

theorem new_any (w : World) : Calls Tryz.prog 68 #[] w fun e w' => e = .returned (.pointer (some ⟨w.heap.size, 0, none⟩)) ∧ TB w' w.heap.size h0 ∧ Only [] w w' := by
  have HN := hide (Blk.new w (tcl true h0).toArray 196)
  have HO := hide (Only.alloc w (.cells (tcl true h0).toArray 196) [])
  go_enter Tryz.func68, Tryz.ntmps68
  go_wp2
  go_ret
  exact ⟨rfl, HN.out, HO.out⟩

theorem has_nil (w : World) (c : Int) : Calls Tryz.prog 292 #[.pointer none, .int .i64 c] w fun e w' => e = .returned (.int .i64 0) ∧ w = w' := by
  go_enter Tryz.func292, Tryz.ntmps292
  go_wp2_with (go_at_call 260; refine Calls.mono (there_nil _) ?_; rintro e w4 ⟨rfl, rfl⟩)
  go_ret
  exact ⟨rfl, rfl⟩
theorem has_in (w : World) (g : Nat) (h : List Int) (h8 : h.length = 8) (hb : TB w g h) (k : Nat) (hk : k < 8) : Calls Tryz.prog 292 #[.pointer (some ⟨g, 0, none⟩), .int .i64 k] w fun e w' => e = .returned (.int .i64 (gt h k)) ∧ w = w' := by
  have HT := hide (there_some w g h hb)
  have ck := hb.held' (k := k) (by omega)
  have hc : okC (k : Int) = true := decide_eq_true (by omega)
  have l0 : (0 : Int) ≤ (k : Int) := by omega
  have l1 : (k : Int) < 8 := by omega
  clear hb h8
  go_enter Tryz.func292, Tryz.ntmps292
  go_wp2_with (first
      | (go_at_call 260; refine Calls.mono HT.out ?_; rintro e w4 ⟨rfl, rfl⟩)
      | (go_at_call 280; refine Calls.mono (isConn_any _ _) ?_; rintro e w4 ⟨rfl, rfl⟩))
  go_ret
  exact ⟨rfl, rfl⟩
theorem has_out (w : World) (g : Nat) (h : List Int) (hb : TB w g h) (c : Int) (hc : okC c = false) : Calls Tryz.prog 292 #[.pointer (some ⟨g, 0, none⟩), .int .i64 c] w fun e w' => e = .returned (.int .i64 0) ∧ w = w' := by
  have HT := hide (there_some w g h hb)
  clear hb
  go_enter Tryz.func292, Tryz.ntmps292
  go_wp2_with (first
      | (go_at_call 260; refine Calls.mono HT.out ?_; rintro e w4 ⟨rfl, rfl⟩)
      | (go_at_call 280; refine Calls.mono (isConn_any _ _) ?_; rintro e w4 ⟨rfl, rfl⟩))
  go_ret
  exact ⟨rfl, rfl⟩

/-- What Take answers, and what is held then. -/
def tkE (h : List Int) (c l : Int) : Int := if askE c l = 0 then (if l ≤ gt h c.toNat then 0 else if frB h c l then 0 else 6) else 2
def tkH (h : List Int) (c l : Int) : List Int := if askE c l = 0 ∧ ¬ l ≤ gt h c.toNat ∧ frB h c l = true then h.set c.toNat l else h
theorem tkH_length (h : List Int) (c l : Int) : (tkH h c l).length = h.length := by unfold tkH; split <;> simp
theorem take_nil (w : World) (c l : Int) : Calls Tryz.prog 275 #[.pointer none, .int .i64 c, .int .i64 l] w fun e w' => e = .returned (.int .i64 1) ∧ w = w' := by
  go_enter Tryz.func275, Tryz.ntmps275
  go_wp2_with (go_at_call 277; refine Calls.mono (asked_nil _ _ _) ?_; rintro e w4 ⟨rfl, rfl⟩)
  go_ret
  exact ⟨rfl, rfl⟩
set_option maxRecDepth 20000 in
set_option maxHeartbeats 1000000 in
theorem take_some (w : World) (g : Nat) (h : List Int) (h8 : h.length = 8) (hb : TB w g h) (c l : Int) : Calls Tryz.prog 275 #[.pointer (some ⟨g, 0, none⟩), .int .i64 c, .int .i64 l] w fun e w' => e = .returned (.int .i64 (tkE h c l)) ∧ TB w' g (tkH h c l) ∧ Only [g] w w' := by
  have HA := hide (asked_some w g h hb c l)
  have HB := hide hb
  by_cases ha : askE c l = 0
  · have hcl : okC c = true ∧ okL l = true := by
      unfold askE at ha
      cases h1 : okC c <;> cases h2 : okL l <;> simp [h1, h2] at ha ⊢
    obtain ⟨k, rfl, hk⟩ : ∃ k : Nat, c = (k : Int) ∧ k < 8 := by
      have := of_decide_eq_true hcl.1
      exact ⟨c.toNat, by omega, by omega⟩
    have ck := hb.held' (k := k) (by omega)
    have l0 : (0 : Int) ≤ (k : Int) := by omega
    have l1 : (k : Int) < 8 := by omega
    have HF := hide (free_any w g h h8 hb (k : Int) l)
    have H8 := hide h8
    rw [ha] at HA
    have HE : Hid (tkE h (k : Int) l = if gt h k < l then (if frB h (k : Int) l then 0 else 6) else 0) := by
      show tkE h (k : Int) l = _
      unfold tkE
      rw [if_pos ha]
      show (if l ≤ gt h k then _ else _) = _
      by_cases e : l ≤ gt h k
      · rw [if_pos e, if_neg (by omega)]
      · have e2 : gt h k < l := by omega
        simp only [if_neg e, if_pos e2]
    have HH := hide (show tkH h (k : Int) l = if gt h k < l ∧ frB h (k : Int) l = true then h.set k l else h by
      unfold tkH; simp only [ha, true_and, Int.not_le]; rfl)
    clear hb h8 hcl ha
    by_cases e1 : l ≤ gt h k
    · go_enter Tryz.func275, Tryz.ntmps275
      go_wp2_with (go_at_call 277; with_reducible refine Calls.mono HA.out ?_; rintro e w4 ⟨rfl, rfl⟩)
      go_ret
      refine ⟨?_, ?_, Only.refl _ _⟩
      · rw [HE.out, if_neg (by omega)]; rfl
      · rw [HH.out, if_neg (by omega)]; exact HB.out
    · cases hf : frB h (k : Int) l with
      | false =>
        rw [hf] at HF
        go_enter Tryz.func275, Tryz.ntmps275
        go_wp2_with (first
          | (go_at_call 277; with_reducible refine Calls.mono HA.out ?_; rintro e w4 ⟨rfl, rfl⟩)
          | (go_at_call 279; with_reducible refine Calls.mono HF.out ?_; rintro e w4 ⟨rfl, ho⟩; have HO := hide ho; clear ho))
        go_ret
        refine ⟨?_, ?_, HO.out.mono (by simp)⟩
        · rw [HE.out, if_pos (by omega), hf]; rfl
        · rw [HH.out, if_neg (fun h => by rw [hf] at h; exact absurd h.2 (by decide))]; exact HO.out.blk HB.out (by simp)
      | true =>
        rw [hf] at HF
        go_enter Tryz.func275, Tryz.ntmps275
        go_wp2_with (first
          | (go_at_call 277; with_reducible refine Calls.mono HA.out ?_; rintro e w4 ⟨rfl, rfl⟩)
          | (go_at_call 279; with_reducible refine Calls.mono HF.out ?_; rintro e w4 ⟨rfl, ho⟩; have HO := hide ho; have HB4 := hide (Blk.only HB.out ho (by simp)); have c4 := HB4.out.held' (k := k) (by rw [H8.out]; exact hk); have f4 := HB4.out.frozen (1 + k); clear ho))
        go_ret
        refine ⟨?_, ?_, ?_⟩
        · rw [HE.out, if_pos (by omega), hf]; rfl
        · rw [HH.out, if_pos ⟨by omega, hf⟩]
          have := HB4.out.set (1 + k) (.int .i64 l)
          rw [Nat.add_comm 1 k, tcl_set] at this
          rw [Nat.add_comm 1 k]
          exact this
        · exact (HO.out.mono (by simp)).trans (Only.setCell w4 ⟨g, 1 + k, none⟩ _)
  · have HE : Hid (tkE h c l = 2) := by show tkE h c l = 2; unfold tkE; rw [if_neg ha]
    have HH : Hid (tkH h c l = h) := by show tkH h c l = h; unfold tkH; rw [if_neg (fun h => ha h.1)]
    have ha2 : askE c l = 2 := by unfold askE at ha ⊢; split <;> simp_all
    rw [ha2] at HA
    clear ha ha2 hb
    go_enter Tryz.func275, Tryz.ntmps275
    go_wp2_with (go_at_call 277; with_reducible refine Calls.mono HA.out ?_; rintro e w4 ⟨rfl, rfl⟩)
    go_ret
    exact ⟨by rw [HE.out]; rfl, by rw [HH.out]; exact HB.out, Only.refl _ _⟩
end Go.Proofs.YtadohcgplbihdabGreat
