/- A disk without files, read; the journal on it. -/
import Derived.Test.YtadohcgplbihdabGreatTB
namespace Go.Proofs.YtadohcgplbihdabGreat
open Go.ChangeShapes Go.WideShapes Go.ChangeAt Go.RowKit Go.Maps
set_option linter.unusedVariables false

theorem conv_nil (V : World) : (convert 116 9 (.slice none 0 0)).run Tryz.prog V = .ok (.string ⟨#[]⟩) V := by kernel_rfl
theorem slice_nil (V : World) : (Instr.slice 116 (.slice none 0 0) (some (.int .i64 0)) (some (.int .i64 0)) none).run Tryz.prog V = .ok (.slice none 0 0) V := by kernel_rfl
set_option maxRecDepth 20000 in
theorem read_e (w : World) (q : Nat) (hc : w.cell? ⟨q, 0, none⟩ = some (.slice none 0 0)) (at_ n : Int) (h : (at_ = 0 ∨ at_ = 64) ∧ (n = 0 ∨ n = 64)) : Calls Tryz.prog 166 #[.pointer (some ⟨q, 0, none⟩), .int .i64 at_, .int .i64 n] w fun e w' => e = .returned (.string ⟨#[]⟩) ∧ w = w' := by
  have HS := hide (size_e w q hc)
  have hcv := conv_nil
  have hsl := slice_nil
  obtain ⟨rfl | rfl, rfl | rfl⟩ := h
  all_goals
    go_enter Tryz.func166, Tryz.ntmps166
    go_wp2_with (go_at_call 192; (with_reducible refine Calls.mono HS.out ?_); rintro e w0 ⟨rfl, rfl⟩)
    go_ret
    exact ⟨rfl, rfl⟩
theorem Read_e (w : World) (d mb : Nat) (room : Int) (h : DE w d mb room) (nm : ByteArray) (at_ n : Int) (hn : (at_ = 0 ∨ at_ = 64) ∧ (n = 0 ∨ n = 64)) : Calls Tryz.prog 134 #[.pointer (some ⟨d, 0, none⟩), .string nm, .int .i64 at_, .int .i64 n] w fun e w' => e = .returned (.tuple #[.string ⟨#[]⟩, .int .i64 0]) ∧ Below w.heap.size w w' := by
  have HR := hide (refusal_e w d mb room h)
  have HS := hide (seen_e w d mb room h nm)
  have HB := hide (below_alloc w (.cells #[.slice none 0 0] 288))
  have HQ := hide (read_e (w.alloc (.cells #[.slice none 0 0] 288)) w.heap.size ((Blk.new w #[.slice none 0 0] 288).cell 0) at_ n hn)
  have l0 : ¬ at_ < 0 := by omega
  have l1 : ¬ n < 0 := by omega
  clear h hn
  go_enter Tryz.func134, Tryz.ntmps134
  go_wp2_with (first
    | (go_at_call 164; (with_reducible refine Calls.mono HR.out ?_); rintro e w0 ⟨rfl, rfl⟩)
    | (go_at_call 165; (with_reducible refine Calls.mono HS.out ?_); rintro e w1 ⟨rfl, rfl⟩)
    | (go_at_call 166; (with_reducible refine Calls.mono HQ.out ?_); rintro e w2 ⟨rfl, rfl⟩))
  go_ret2
  exact ⟨rfl, HB.out⟩
theorem Len_e (w : World) (d mb : Nat) (room : Int) (h : DE w d mb room) (nm : ByteArray) : Calls Tryz.prog 177 #[.pointer (some ⟨d, 0, none⟩), .string nm] w fun e w' => e = .returned (.int .i64 0) ∧ Below w.heap.size w w' := by
  have HR := hide (refusal_e w d mb room h)
  have HS := hide (seen_e w d mb room h nm)
  have HB := hide (below_alloc w (.cells #[.slice none 0 0] 288))
  have HQ := hide (size_e (w.alloc (.cells #[.slice none 0 0] 288)) w.heap.size ((Blk.new w #[.slice none 0 0] 288).cell 0))
  clear h
  go_enter Tryz.func177, Tryz.ntmps177
  go_wp2_with (first
    | (go_at_call 164; (with_reducible refine Calls.mono HR.out ?_); rintro e w0 ⟨rfl, rfl⟩)
    | (go_at_call 165; (with_reducible refine Calls.mono HS.out ?_); rintro e w1 ⟨rfl, rfl⟩)
    | (go_at_call 192; (with_reducible refine Calls.mono HQ.out ?_); rintro e w2 ⟨rfl, rfl⟩))
  go_ret
  exact ⟨rfl, HB.out⟩
theorem jcount_e (w : World) (d mb : Nat) (room : Int) (h : DE w d mb room) : Calls Tryz.prog 143 #[.pointer (some ⟨d, 0, none⟩)] w fun e w' => e = .returned (.int .i64 0) ∧ Below w.heap.size w w' := by
  have HL := hide (fun nm => Len_e w d mb room h nm)
  clear h
  go_enter Tryz.func143, Tryz.ntmps143
  go_wp2_with (go_at_call 177; (with_reducible refine Calls.mono (HL.out _) ?_); rintro e w0 ⟨rfl, hb⟩; have HB := hide hb; clear hb)
  go_ret
  exact ⟨rfl, HB.out⟩
theorem jrefusal_e (w : World) (d mb : Nat) (room : Int) (h : DE w d mb room) : Calls Tryz.prog 105 #[.agg #[.pointer (some ⟨d, 0, none⟩)]] w fun e w' => e = .returned (.int .i64 0) ∧ Below w.heap.size w w' := by
  have HD := hide (fun nm => Read_e _ d mb room (h.later (below_alloc w (.cells #[.pointer (some ⟨d, 0, none⟩)] 187))) nm 0 0 ⟨.inl rfl, .inl rfl⟩)
  have HB := hide (below_alloc w (.cells #[.pointer (some ⟨d, 0, none⟩)] 187))
  clear h
  go_enter Tryz.func105, Tryz.ntmps105
  go_wp2_with (go_at_call 134; (with_reducible refine Calls.mono (HD.out _) ?_); rintro e w0 ⟨rfl, hb⟩; have HB1 := hide (below_trans HB.out hb); clear hb)
  go_ret
  exact ⟨rfl, HB1.out⟩
def wz : Array Value := #[.int .u32 0, .int .u32 0, .int .u32 0, .int .u32 0]
theorem infoW : (Tryz.prog.info? 224).map (·.size) = some 4 := by kernel_rfl
theorem uW : ∃ d, Tryz.prog.underlying 224 = some d ∧ d.isRow = true := ⟨_, Tryz.underlying224, rfl⟩
theorem wz_one : wz.all (·.oneCell') = true := all_oneCell_toArray (cs := [Value.int .u32 0, .int .u32 0, .int .u32 0, .int .u32 0]) (by intro v hv; simp at hv; rcases hv with rfl | rfl | rfl | rfl <;> rfl)
set_option maxRecDepth 20000 in
set_option maxHeartbeats 2000000 in
theorem head_e (w : World) (d mb : Nat) (room : Int) (h : DE w d mb room) : Calls Tryz.prog 135 #[.agg #[.pointer (some ⟨d, 0, none⟩)]] w fun e w' => e = .returned (.agg wz) ∧ Below w.heap.size w w' := by
  have HB : Hid (Below w.heap.size w ((w.alloc (.cells #[.pointer (some ⟨d, 0, none⟩)] 187)).alloc (.cells wz 224))) := below_trans (below_alloc _ _) (below_alloc _ _)
  have HD := hide (fun nm => Read_e _ d mb room (h.later HB.out) nm 0 64 ⟨.inl rfl, .inr rfl⟩)
  have HZ : Hid (Blk ((w.alloc (.cells #[.pointer (some ⟨d, 0, none⟩)] 187)).alloc (.cells wz 224)) (w.heap.size + 1) wz 224) := by
    have := Blk.new (w.alloc (.cells #[.pointer (some ⟨d, 0, none⟩)] 187)) wz 224
    rwa [show (w.alloc (.cells #[.pointer (some ⟨d, 0, none⟩)] 187)).heap.size = w.heap.size + 1 by simp] at this
  have HI := hide infoW
  clear h
  go_enter Tryz.func135, Tryz.ntmps135
  go_wp2_with (first
    | (go_at_call 134; (with_reducible refine Calls.mono (HD.out _) ?_); rintro e w0 ⟨rfl, hb⟩; have HB1 := hide (below_trans HB.out hb); have HZ1 := hide (HZ.out.later hb); clear hb)
    | ((with_reducible refine atSt 224 ?_); refine wp_storeB (c := wz) HI.out (by rfl) wz_one HZ1.out _ _ (by rfl) (by rfl) (by rfl) (by rfl) ?_; intro W5 hb5 ho5; have HB5 := hide hb5; have HG5 := hide (below_only1 HB1.out ho5 (by omega)); clear hb5 ho5))
  refine ret_blk (c := wz) HI.out uW (by rfl) (by rfl) HB5.out ?_
  exact ⟨rfl, HG5.out⟩
set_option maxRecDepth 20000 in
theorem hot_e (w : World) (d mb : Nat) (room : Int) (h : DE w d mb room) : Calls Tryz.prog 106 #[.pointer (some ⟨d, 0, none⟩)] w fun e w' => e = .returned (.bool false) ∧ Below w.heap.size w w' := by
  have HD := hide (head_e w d mb room h)
  have hx : ∀ V : World, (Instr.index 224 (.agg wz) (.int .i64 0)).run Tryz.prog V = .ok (.int .u32 0) V := fun V => by kernel_rfl
  clear h
  go_enter Tryz.func106, Tryz.ntmps106
  go_wp2_with (go_at_call 135; (with_reducible refine Calls.mono HD.out ?_); rintro e w0 ⟨rfl, hb⟩; have HB := hide hb; clear hb)
  go_ret
  exact ⟨rfl, HB.out⟩
theorem recover_e (w : World) (d mb : Nat) (room : Int) (h : DE w d mb room) : Calls Tryz.prog 65 #[.pointer (some ⟨d, 0, none⟩)] w fun e w' => e = .returned (.tuple #[.bool false, .int .i64 0]) ∧ Below w.heap.size w w' := by
  have HR := hide (fun V (hb : Below w.heap.size w V) => jrefusal_e V d mb room (h.later hb))
  have HH := hide (fun V (hb : Below w.heap.size w V) => hot_e V d mb room (h.later hb))
  have HB := hide (below_alloc w (.cells #[.pointer (some ⟨d, 0, none⟩)] 187))
  clear h
  go_enter Tryz.func65, Tryz.ntmps65
  go_wp2_with (first
    | (go_at_call 105; (with_reducible refine Calls.mono (HR.out _ HB.out) ?_); rintro e w0 ⟨rfl, hb⟩; have HB1 := hide (below_trans HB.out hb); clear hb)
    | (go_at_call 106; (with_reducible refine Calls.mono (HH.out _ HB1.out) ?_); rintro e w1 ⟨rfl, hb⟩; have HB2 := hide (below_trans HB1.out hb); clear hb))
  go_ret2
  exact ⟨rfl, HB2.out⟩
end Go.Proofs.YtadohcgplbihdabGreat
