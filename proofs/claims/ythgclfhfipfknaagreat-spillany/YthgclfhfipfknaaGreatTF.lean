/- A lock dropped. -/
/- A store by the journal on a disk without files. -/
import Derived.Test.YthgclfhfipfknaaGreatLKD
import Derived.Test.YthgclfhfipfknaaGreatTE
namespace Go.Proofs.YthgclfhfipfknaaGreat
open Go.ChangeShapes Go.WideShapes Go.ChangeAt Go.RowKit
set_option linter.unusedVariables false

/-- What is held behind Drop. -/
def drH (h : List Int) (c l : Int) : List Int := if askE c l = 0 then h.set c.toNat (min (gt h c.toNat) l) else h
theorem drH_length (h : List Int) (c l : Int) : (drH h c l).length = h.length := by unfold drH; split <;> simp
theorem drop_nil (w : World) (c l : Int) : Calls Tryz.prog 365 #[.pointer none, .int .i64 c, .int .i64 l] w fun e w' => e = .returned (.int .i64 1) ∧ w = w' := by
  go_enter Tryz.func365, Tryz.ntmps365
  go_wp2_with (go_at_call 370; refine Calls.mono (asked_nil _ _ _) ?_; rintro e w4 ⟨rfl, rfl⟩)
  go_ret
  exact ⟨rfl, rfl⟩
theorem TB.set {w : World} {g : Nat} {h : List Int} (hb : TB w g h) (k : Nat) (x : Int) : TB (w.setCell ⟨g, 1 + k, none⟩ (.int .i64 x)) g (h.set k x) := by
  have := Blk.set hb (1 + k) (.int .i64 x)
  rw [Nat.add_comm 1 k, tcl_set] at this
  rw [Nat.add_comm 1 k]
  exact this
set_option maxRecDepth 20000 in
set_option maxHeartbeats 1000000 in
theorem drop_some (w : World) (g : Nat) (L : List Int) (h8 : L.length = 8) (hb : TB w g L) (c l : Int) : Calls Tryz.prog 365 #[.pointer (some ⟨g, 0, none⟩), .int .i64 c, .int .i64 l] w fun e w' => e = .returned (.int .i64 (askE c l)) ∧ TB w' g (drH L c l) ∧ Only [g] w w' := by
  have HA := hide (asked_some w g L hb c l)
  have HB := hide hb
  by_cases ha : askE c l = 0
  · have hcl : okC c = true ∧ okL l = true := by
      unfold askE at ha
      cases h1 : okC c <;> cases h2 : okL l <;> simp [h1, h2] at ha ⊢
    obtain ⟨k, rfl, hk⟩ : ∃ k : Nat, c = (k : Int) ∧ k < 8 := by
      have := of_decide_eq_true hcl.1
      exact ⟨c.toNat, by omega, by omega⟩
    have ck := hb.held' (k := k) (by omega)
    have fk := hb.frozen (1 + k)
    have l0 : (0 : Int) ≤ (k : Int) := by omega
    have l1 : (k : Int) < 8 := by omega
    have H8 := hide h8
    rw [ha] at HA
    have HH := hide (show drH L (k : Int) l = L.set k (min (gt L k) l) by unfold drH; rw [if_pos ha]; rfl)
    rw [ha]
    clear hb h8 hcl ha
    go_enter Tryz.func365, Tryz.ntmps365
    go_wp2_with (go_at_call 370; with_reducible refine Calls.mono HA.out ?_; rintro e w4 ⟨rfl, rfl⟩)
    go_region
    all_goals (try go_wp2)
    all_goals go_ret
    all_goals refine ⟨rfl, ?_, (Only.setCell w ⟨g, 1 + k, none⟩ _).trans (Only.drew _ _)⟩
    · rw [HH.out, show min (gt L k) l = l by omega]
      exact TB.set HB.out k l
    · rw [HH.out, show min (gt L k) l = gt L k by omega]
      exact TB.set HB.out k (gt L k)
  · have HH : Hid (drH L c l = L) := by show drH L c l = L; unfold drH; rw [if_neg ha]
    have ha2 : askE c l = 2 := by unfold askE at ha ⊢; split <;> simp_all
    rw [ha2] at HA ⊢
    clear ha ha2 hb
    go_enter Tryz.func365, Tryz.ntmps365
    go_wp2_with (go_at_call 370; with_reducible refine Calls.mono HA.out ?_; rintro e w4 ⟨rfl, rfl⟩)
    go_ret
    exact ⟨rfl, by rw [HH.out]; exact HB.out, Only.refl _ _⟩
end Go.Proofs.YthgclfhfipfknaaGreat

namespace Go.Proofs.YthgclfhfipfknaaGreat
open Go.ChangeShapes Go.WideShapes Go.ChangeAt Go.RowKit Go.Maps
set_option linter.unusedVariables false

/-- A store's face by the journal. -/
def fcV (j : Nat) : Value := .iface 139 (.pointer (some ⟨j, 0, none⟩))
/-- What a transaction by the journal stands on. -/
structure Gr (w : World) (j d mb l : Nat) (room : Int) (L : List Int) : Prop where
  jr : Blk w j #[.pointer (some ⟨d, 0, none⟩), .int .i64 0, .pointer (some ⟨l, 0, none⟩)] 141
  de : DE w d mb room
  lk : TB w l L
  l8 : L.length = 8
theorem Gr.later {w w' : World} {j d mb l : Nat} {room : Int} {L : List Int} (h : Gr w j d mb l room L) (hb : Below w.heap.size w w') : Gr w' j d mb l room L := ⟨h.jr.later hb, h.de.later hb, Blk.later h.lk hb, h.l8⟩
theorem Gr.drew {w : World} {j d mb l : Nat} {room : Int} {L : List Int} (h : Gr w j d mb l room L) : Gr w.drew j d mb l room L := ⟨h.jr, h.de.drew, h.lk, h.l8⟩
theorem Gr.j0 {w : World} {j d mb l : Nat} {room : Int} {L : List Int} (h : Gr w j d mb l room L) : w.cell? ⟨j, 0, none⟩ = some (.pointer (some ⟨d, 0, none⟩)) := h.jr.cell 0
theorem Gr.j1 {w : World} {j d mb l : Nat} {room : Int} {L : List Int} (h : Gr w j d mb l room L) : w.cell? ⟨j, 1, none⟩ = some (.int .i64 0) := h.jr.cell 1
theorem Gr.j2 {w : World} {j d mb l : Nat} {room : Int} {L : List Int} (h : Gr w j d mb l room L) : w.cell? ⟨j, 2, none⟩ = some (.pointer (some ⟨l, 0, none⟩)) := h.jr.cell 2

set_option maxRecDepth 20000 in
set_option maxHeartbeats 2000000 in
theorem over_e (w : World) (j d mb l : Nat) (room : Int) (L : List Int) (h : Gr w j d mb l room L) : Calls Tryz.prog 361 #[.pointer (some ⟨j, 0, none⟩)] w fun e w' => e = .returned (.bool false) ∧ Below w.heap.size w w' := by
  have HG := hide h.drew
  have HD := hide (down_e w.drew d mb room h.de.drew)
  have HT := hide (starts_e w.drew d mb room h.de.drew)
  have HB := hide (below_drew w)
  clear h
  go_enter Tryz.func361, Tryz.ntmps361
  go_upto_region 1 with fail
  go_region_held3 (fun V => V.cell? ⟨j, 0, none⟩ = some (.pointer (some ⟨d, 0, none⟩)) ∧ V.cell? ⟨j, 1, none⟩ = some (.int .i64 0)) (exact ⟨HG.out.j0, HG.out.j1⟩) (first
    | (go_at_call 366; (with_reducible refine Calls.mono HD.out ?_); rintro e w4 ⟨rfl, rfl⟩)
    | (go_at_call 62; (with_reducible refine Calls.mono HT.out ?_); rintro e w4 ⟨rfl, rfl⟩))
  all_goals
    go_wp2
    go_ret
    exact ⟨rfl, HB.out⟩
end Go.Proofs.YthgclfhfipfknaaGreat
