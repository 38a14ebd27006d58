/- PROVED HERE: 'HistSteps', whatever the scale, the operations and the schedule, of bulk at most 1048576: by any schedule of their actions, each action, which have ended, what they answer and what the cells have are what the document tells. The condition: the bulk of the arguments is at most 1048576. -/
import Derived.JoinedCond
import Derived.Test.YtiifhkfkcljoiaaRv
import Derived.Test.YtiifhkfkcljoiaaRi
import Derived.Test.YtiifhkfkcljoiaaJx
namespace Go.Proofs.Ytiifhkfkcljoiaa
open Go.ChangeShapes Go.WideShapes Go.ChangeAt Go.RowKit Go.Joins

set_option maxRecDepth 100000 in
theorem histSteps_contract (H : Type) (enc : TypeId × Value → H) (W : World) (base : Nat) (args : Array Value) (ds gs : List (DataW H)) (before : List MemPlace)
    (hval0 : ∀ (j : Nat) t v, Try.f3.params[j]? = some t → args[j]? = some v → Value.okWide Try.prog W .any base t v)
    (hW : DataW.Whole enc Try.prog Try.f3.params.toList Rows.histStepsSpec.vars false W args.toList ds gs before) (hk : Rows.uptoSmall H (ds ++ gs) = true) :
    Calls Try.prog 3 args W fun e W' => ∃ v, e = .returned v ∧ Rows.histStepsSpec.post enc Try.prog Try.f3 false true false false W args v W' := by
  have hval : ∀ (j : Nat) t v, Try.f3.params[j]? = some t → args[j]? = some v → Value.okWide Try.prog W .any base t v := hval0
  have hW' := hW
  obtain ⟨p, q, hA0, hV, rfl, _, _⟩ := hW
  have hA : DataW.TrodAll enc Try.prog W 0 (fun _ => true) true Try.f3.params.toList args.toList ds p := hA0
  rw [Try.params3] at hA hval
  obtain ⟨v0, v1, v2, d0, d1, d2, p0, p1, p2, rfl, rfl, rfl, h0, h1, h2⟩ := trodAll_three hA
  obtain ⟨rfl, rfl⟩ := trodVars_none hV
  obtain ⟨l, h, d, rfl, rfl, rfl, u0, u1, u2⟩ := open_sc (hval 0 23 v0 rfl rfl) h0
  have h1k := h1
  obtain ⟨A1, ops, cap1, rfl, hE1, hwf1, hd1⟩ := open_triples Try.underlying24 Try.underlying40 oneOp cOp Try.underlying37 Try.underlying2 Try.underlying38 (hval 1 24 v1 rfl rfl) h1
  have h2k := h2
  obtain ⟨A2, xs, cap2, rfl, hE2, hwf2, hd2⟩ := open_nums Try.underlying25 Try.underlying3 c1_int (hval 2 25 v2 rfl rfl) h2
  clear hA0 hval0
  simp only [List.append_nil, List.nil_append] at hW' hk
  have hbulk := of_decide_eq_true hk
  simp only [Rows.uptoBulkAll] at hbulk
  have hlt1 : ∀ x ∈ p1, x.block < W.heap.size := fun x hx => hW'.lt x (by simp [hx])
  have hr1 : ops.length ≤ 1048576 := by
    rcases hd1 with rfl | ⟨el, sp, rfl, hel⟩
    · simp
    · have := bulk_slice el sp
      omega
  have hlt2 : ∀ x ∈ p2, x.block < W.heap.size := fun x hx => hW'.lt x (by simp [hx])
  have hr2 : xs.length ≤ 1048576 := by
    rcases hd2 with rfl | ⟨el, sp, rfl, hel⟩
    · simp
    · have := bulk_slice el sp
      omega
  have hwalk : Calls Try.prog 3 #[.agg #[.int .i64 l, .int .i64 h, .int .i64 d], .slice A1 ops.length cap1, .slice A2 xs.length cap2] W fun e w' => e = .returned (.bool true) ∧ Below W.heap.size W w' := by
    cases r : Sc.rightB l h d with
    | false => exact histSteps_no r W
    | true => exact histSteps_yes r W hE1 (fun op hop => (u64_bounds (hwf1 op hop).2.2).1) hr1 hE2 hr2
  refine hwalk.mono fun e W' ⟨he, hb⟩ => ?_
  subst he
  exact ⟨_, rfl, _, _, _, [], _, [], hW', trodAll_mk1 (shut_bool Try.underlying4 true), trodAll_mk3 (shut_sc u0 u1 u2) (Below.trod laid0 (by kernel_rfl) (of_decide_eq_true (by kernel_rfl)) h1k hb hlt1) (Below.trod laid0 (by kernel_rfl) (of_decide_eq_true (by kernel_rfl)) h2k hb hlt2), rfl, hb.frame _, fun h => by cases h⟩

set_option maxRecDepth 100000 in
theorem histSteps_lifted (os : Os) (started : os.Started) (H : Type) (enc : TypeId × Value → H) (F : Stop.Interp) :
    ReturnsInHanded {} Try.checked os 3 .any ((Rows.OpenSpec.upto Rows.histStepsSpec).pre6 enc Try.prog Try.f3 Rows.histStepsUptoRow.domain false) (((Rows.OpenSpec.upto Rows.histStepsSpec).at F).post enc Try.prog Try.f3 false true false false) := by
  refine returnsInHanded_of_cond (C := Try.checked) (s := Rows.OpenSpec.upto Rows.histStepsSpec) (k := Rows.uptoSmall) rfl own0 started (by kernel_rfl) Try.func3
    (OpenSpec.witness (enc := enc) (C := Try.checked) (s := Rows.OpenSpec.upto Rows.histStepsSpec) (k := Rows.uptoSmall) rfl false ⟨#[], #[.agg #[.int .i64 0, .int .i64 0, .int .i64 0], .slice none 0 0, .slice none 0 0], []⟩ 8 (by kernel_rfl) (by kernel_rfl) (by kernel_rfl)
      (x := ([.agg [.lit (.int .i64 0), .lit (.int .i64 0), .lit (.int .i64 0)], .nil, .nil], [], [])) (by kernel_rfl) rfl (by kernel_rfl)) ?_
  intro W base args ds gs before hval hW _ hk _
  exact histSteps_contract H enc W base args ds gs before hval hW hk

theorem histSteps_upto : Rows.HistStepsUptoSaid :=
  OpenClaim.holds_of_cond 3 Try.f3 rfl rfl rfl rfl rfl rfl rfl ⟨rfl, rfl, rfl, rfl, rfl⟩ rfl rfl rfl rfl rfl (by kernel_rfl) Try.func3 (by kernel_rfl)
    (of_decide_eq_true (by kernel_rfl)) (by unfold Func.isWrapper; first | (rw [if_pos (by decide +kernel)]; kernel_rfl) | (rw [if_neg (by decide +kernel)]; exact ⟨rfl, rfl⟩))
    (fun os started H enc _ F => histSteps_lifted os started H enc F)
end Go.Proofs.Ytiifhkfkcljoiaa
